/- FrameKnown returns true and makes new memory alone. Condition: errors.errorType holds what its text lays. -/
import Derived.Test.YtdnpgdhkeofphaaDoorFrmK
import Derived.Test.YtdnpgdhkeofphaaDoorFrmX
import Derived.Laws.OwnMore
namespace Go.Proofs.YtdnpgdhkeofphaaDoor
open Go.RowKit

theorem own_lit {w : World} {B : Nat} {v : Value} {n : Nat} {xs : List Value} (h : w.ownsRow B 5 1 v n xs) (hn : 0 < n) : ∃ g cap, v = .slice (some ⟨g, 0, none⟩) n cap ∧ n ≤ cap ∧ B ≤ g := by
  rcases h.2 with ⟨_, h0⟩ | ⟨g, cap, cur, rfl, h1, _, h2, _⟩
  · omega
  · exact ⟨g, cap, rfl, h2, h1⟩

def hello : List Int := [104, 101, 108, 108, 111]
theorem okb_hello : Okb hello := by unfold Okb hello; decide
theorem nxt_cut : nxt ((frm 7 hello).take 13) = (0, [], 0, 3) := by decide +kernel
theorem nxt_zero : nxt [0, 0, 0, 0, 0, 0, 0, 0, 0] = (0, [], 0, 2) := by decide +kernel
theorem nxt_long' : nxt [1, 255, 0, 0, 0, 0, 0, 0, 0] = (0, [], 0, 2) := by decide +kernel
theorem nxt_set : nxt ((frm 7 hello).set 13 112) = (0, [], 0, 4) := by decide +kernel
theorem okb_zero : Okb [0, 0, 0, 0, 0, 0, 0, 0, 0] := by unfold Okb; decide
theorem okb_long : Okb [1, 255, 0, 0, 0, 0, 0, 0, 0] := by unfold Okb; decide
theorem frm_last : (frm 7 hello)[13]? = some 111 := by decide +kernel
theorem okb_set : Okb ((frm 7 hello).set 13 112) := by
  intro z hz
  rcases List.mem_or_eq_of_mem_set hz with h | rfl
  · exact frm_ok 7 okb_hello z h
  · decide
theorem frm_size : (frm 7 hello).length = 14 := rfl

theorem khand_kind (w : World) (k : Int) (h : k ≠ 0) (hg : Glob w) : Calls Tryd.prog 23 #[kind k] w fun e w' => e = .returned (.int .i64 k) ∧ Below w.heap.size w w' := by
  have := khand_any w k hg
  rwa [errOf, if_neg h] at this

set_option maxRecDepth 10000 in
set_option maxHeartbeats 4000000 in
theorem frameKnown_walk (w : World) (hg : Glob w) : Calls Tryd.prog 7 #[] w fun e w' => e = .returned (.bool true) ∧ Below w.heap.size w w' := by
  obtain ⟨i0, hi0, hz0, hz1, hz2⟩ := info_parts u8info
  have kc := fun (w : World) (C : Array Value) (n c : Nat) => Lib.run_convert_bytes_const (P := Tryd.prog) w 67 5 C n c Tryd.underlying67 Tryd.underlying5
  have HG := Lib.hid hg
  clear hg
  go_enter Tryd.func7, Tryd.ntmps7
  go_wp2_with fail
  refine (lay_no _ 0 none 0 0 (by decide)).mono ?_
  rintro e _ ⟨rfl, rfl⟩
  go_wp2_with fail
  refine (lay_no _ 256 none 0 0 (by decide)).mono ?_
  rintro e _ ⟨rfl, rfl⟩
  go_wp2_with (refine wpList_make_full _ (by rfl) (.const (.int .i64 1048577)) (.const (.int .i64 1048577)) 67 (by rfl) w.heap.size 5 i0 _ 1 Tryd.underlying67 hi0 hz0 hz1 .i64 .i64 1048577 1048577 1048577 (by rfl) (by rfl) (by rfl) (by rfl) (by rw [hz2]; decide) (by simp [maxLen]) (Nat.le_refl _) ?_; intro w1 R1 R2; have B1 := Lib.hid (below_row R2 (Nat.le_refl _) (fun k hk => by cases hk)); clear R1 R2)
  refine (lay_no _ 1 _ 1048577 _ (by decide)).mono ?_
  rintro e _ ⟨rfl, rfl⟩
  go_wp2_with fail
  refine (lay_yes _ 7 _ hello (by decide) (by decide) okb_hello (by decide) (seen_lit _ hello 5 5 rfl (by decide) _ _ _ rfl).seen).mono ?_
  rintro e w2 ⟨u2, rfl, h2, b2⟩
  obtain ⟨g, cap, rfl, hgc, hgB⟩ := own_lit h2 (by rw [frm_size]; decide)
  rw [frm_size] at hgc
  have H2 := Lib.hid (SeenR.own h2)
  have B2 := Lib.hid ((B1.out.alloc B1.out.size _).trans (b2.mono (by have := B1.out.size; simp; omega)))
  clear h2 b2 B1 hgB
  rw [frm_size] at H2 ⊢
  go_wp2_with fail
  refine (known_any _ (HG.out.kb B2.out)).mono ?_
  rintro e w3 ⟨rfl, b3⟩
  have H3 := Lib.hid (H2.out.kb b3)
  have B3 := Lib.hid (B2.out.trans (b3.mono B2.out.size))
  clear b3 B2 H2
  go_wp2_with fail
  refine (next_to _ _ ((frm 7 hello).take 13) nxt_cut ((frm_ok 7 okb_hello).take 13) (by decide) (seen_len (l := frm 7 hello) H3.out 13 cap (by decide) (by omega))).mono ?_
  rintro e w4 ⟨u4, rfl, _, b4⟩
  have H4 := Lib.hid (H3.out.kb b4)
  have B4 := Lib.hid (B3.out.trans (b4.mono B3.out.size))
  clear b4 B3 H3
  go_wp2_with fail
  refine (next_to _ _ [0, 0, 0, 0, 0, 0, 0, 0, 0] nxt_zero okb_zero (by decide) (seen_lit _ [0, 0, 0, 0, 0, 0, 0, 0, 0] 9 9 rfl (by decide) _ _ _ rfl)).mono ?_
  rintro e w5 ⟨u5, rfl, _, b5⟩
  have D5 := Lib.hid (((Below.refl w4.heap.size w4).alloc (Nat.le_refl _) _).trans (b5.mono (by simp)))
  have H5 := Lib.hid (H4.out.kb D5.out)
  have B5 := Lib.hid (B4.out.trans (D5.out.mono B4.out.size))
  clear b5 D5 B4 H4
  go_wp2_with fail
  refine (next_to _ _ [1, 255, 0, 0, 0, 0, 0, 0, 0] nxt_long' okb_long (by decide) (seen_lit _ [1, 255, 0, 0, 0, 0, 0, 0, 0] 9 9 rfl (by decide) _ _ _ rfl)).mono ?_
  rintro e w6 ⟨u6, rfl, _, b6⟩
  have D6 := Lib.hid (((Below.refl w5.heap.size w5).alloc (Nat.le_refl _) _).trans (b6.mono (by simp)))
  have H6 := Lib.hid (H5.out.kb D6.out)
  have B6 := Lib.hid (B5.out.trans (D6.out.mono B5.out.size))
  clear b6 D6 B5 H5
  have hown := World.ownsRow_made (base := w6.heap.size) (e := 5) (size := 1) w6 #[] 0 (Nat.le_refl _) (by decide) rfl
  have HA := Lib.hid ((Below.refl w6.heap.size w6).alloc (Nat.le_refl _) (.cells #[] 5))
  go_wp2_with (at_builtin; refine append_bytes (by rfl) (.tmp 74) (.tmp 75) (by rfl) w6.heap.size _ [] (by rfl) hown _ (frm 7 hello) (by rfl) ((H6.out.kb HA.out).seen) (by rw [frm_size]; decide) HA.out.size ?_; intro y w7 R1 R2 R3; have HG7 := Lib.hid (HA.out.trans (below_row R2 HA.out.size fun k hk => by cases hk; exact Nat.le_refl _)); obtain ⟨gy, cy, rfl, hyc, hyB⟩ := own_lit R1 (by rw [List.nil_append, frm_size]; decide); have HY := Lib.hid R1; clear R1 R2 R3; have hcy := HY.out.cellAt 13 (by rw [List.nil_append, frm_size]; decide); have hfy := HY.out.frozenAt 13; rw [show (us ([] ++ frm 7 hello))[13]? = some (.int .u8 111) from by simp [us, frm_last]] at hcy; rw [show (([] : List Int) ++ frm 7 hello).length = 14 from rfl] at HY hyc ⊢)
  have R := HY.out.stored 13 (.int .u8 112)
  have E : (us ([] ++ frm 7 hello)).set 13 (.int .u8 112) = us ((frm 7 hello).set 13 112) := by simp [us]
  rw [E] at R
  have S8 := Lib.hid (SeenR.own (l := (frm 7 hello).set 13 112) (B := w6.heap.size) (by rw [List.length_set, frm_size]; exact R.1))
  have B8 := Lib.hid (B6.out.trans ((HG7.out.trans (below_row R.2 HG7.out.size fun k hk => by cases hk; exact hyB)).mono B6.out.size))
  clear R E HY HG7 hcy hfy hown HA H6 B6
  refine (next_to _ _ ((frm 7 hello).set 13 112) nxt_set okb_set (by rw [List.length_set, frm_size]; decide) S8.out).mono ?_
  rintro e w8 ⟨u8, rfl, _, b8⟩
  have C0 := Lib.hid (B8.out.trans (b8.mono B8.out.size))
  clear b8 B8 S8
  go_wp2_with fail
  refine (khand_kind _ 1 (by decide) (HG.out.kb C0.out)).mono ?_
  rintro e x0 ⟨rfl, d⟩
  have C1 := Lib.hid (C0.out.trans (d.mono C0.out.size))
  clear d C0
  go_wp2_with fail
  refine (khand_kind _ 1 (by decide) (HG.out.kb C1.out)).mono ?_
  rintro e x1 ⟨rfl, d⟩
  have C2 := Lib.hid (C1.out.trans (d.mono C1.out.size))
  clear d C1
  go_wp2_with fail
  refine (khand_kind _ 1 (by decide) (HG.out.kb C2.out)).mono ?_
  rintro e x2 ⟨rfl, d⟩
  have C3 := Lib.hid (C2.out.trans (d.mono C2.out.size))
  clear d C2
  go_wp2_with fail
  refine (khand_any _ 3 (HG.out.kb C3.out)).mono ?_
  rintro e x3 ⟨rfl, d⟩
  have C4 := Lib.hid (C3.out.trans (d.mono C3.out.size))
  clear d C3
  go_wp2_with fail
  refine (khand_any _ 2 (HG.out.kb C4.out)).mono ?_
  rintro e x4 ⟨rfl, d⟩
  have C5 := Lib.hid (C4.out.trans (d.mono C4.out.size))
  clear d C4
  go_wp2_with fail
  refine (khand_any _ 2 (HG.out.kb C5.out)).mono ?_
  rintro e x5 ⟨rfl, d⟩
  have C6 := Lib.hid (C5.out.trans (d.mono C5.out.size))
  clear d C5
  go_wp2_with fail
  refine (khand_any _ 4 (HG.out.kb C6.out)).mono ?_
  rintro e x6 ⟨rfl, d⟩
  have C7 := Lib.hid (C6.out.trans (d.mono C6.out.size))
  clear d C6
  go_wp2_with fail
  go_ret
  exact ⟨rfl, C7.out⟩
end Go.Proofs.YtdnpgdhkeofphaaDoor
