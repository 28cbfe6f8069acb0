/- known() and CrcKnown() return true, and nothing that was there has turned. -/
import Derived.Test.YtkmjifjjfbobhaaCrcS
import Derived.Lib.SlBytesConst
import Derived.Lib.SmallJoins
namespace Go.Proofs.Ytkmjifjjfbobhaa
open Go.RowKit

theorem crc_nine : ((crc [49, 50, 51, 52, 53, 54, 55, 56, 57] : Nat) : Int) = 3421780262 := by decide +kernel
theorem crc_a : ((crc [97] : Nat) : Int) = 3904355907 := by decide +kernel
theorem crc_zero : ((crc [0] : Nat) : Int) = 3523407757 := by decide +kernel
theorem crc_nil : ((crc [] : Nat) : Int) = 0 := by decide +kernel
theorem okb_nine : Okb [49, 50, 51, 52, 53, 54, 55, 56, 57] := by unfold Okb; decide
theorem okb_a : Okb [97] := by unfold Okb; decide
theorem okb_zero : Okb [0] := by unfold Okb; decide

theorem sum_to (w : World) (v : Value) (l : List Int) (n : Int) (hn : (crc l : Nat) = n) (ok : Okb l) (hl : l.length ≤ 140737488351232) (hs : Seen w v l) : Calls Try.prog 7 #[v] w fun e w' => e = .returned (.int .u32 n) ∧ w = w' := hn ▸ sum_any w v l ok hl hs


theorem news_mark (w : World) (C : Array Value) (e : TypeId) (fr : Nat × Nat) (n : Nat) (hn : n = w.heap.size) : ∀ j u, C.toList[j]? = some u → (w.alloc (.cells C e fr)).cell? ((⟨n, 0, none⟩ : Addr).add j) = some u := fun j u h => by
  subst hn
  rw [Addr.add_lit, Nat.zero_add, World.cell?_alloc_mark w C e fr j]
  simpa using h

set_option maxHeartbeats 800000 in
theorem known_any (w : World) : Calls Try.prog 6 #[] w fun e w' => e = .returned (.bool true) ∧ Below w.heap.size w w' := by
  have kc := fun (w : World) (C : Array Value) (n c : Nat) => Lib.run_convert_bytes_const (P := Try.prog) w 25 5 C n c Try.underlying25 Try.underlying5
  go_enter Try.func6, Try.ntmps6
  go_wp2_with fail
  refine (sum_to _ _ _ _ crc_nine okb_nine (by decide) (.inr ⟨_, 9, rfl, by decide, news_mark _ _ _ _ _ rfl⟩)).mono ?_
  rintro e _ ⟨rfl, rfl⟩
  go_wp2
  go_ret
  exact ⟨rfl, (Below.refl _ _).alloc (Nat.le_refl _) _⟩

set_option maxHeartbeats 800000 in
theorem crcKnown_walk (w : World) : Calls Try.prog 3 #[] w fun e w' => e = .returned (.bool true) ∧ Below w.heap.size w w' := by
  have kc := fun (w : World) (C : Array Value) (n c : Nat) => Lib.run_convert_bytes_const (P := Try.prog) w 25 5 C n c Try.underlying25 Try.underlying5
  go_enter Try.func3, Try.ntmps3
  go_wp2_with fail
  refine (known_any _).mono ?_
  rintro e w1 ⟨rfl, b1⟩
  have B1 := Lib.hid b1
  clear b1
  go_wp2_with fail
  refine (sum_to _ _ _ _ crc_nil Okb.nil (by decide) (Seen.nil _)).mono ?_
  rintro e _ ⟨rfl, rfl⟩
  go_wp2_with fail
  refine (sum_to _ _ _ _ crc_a okb_a (by decide) (.inr ⟨_, 1, rfl, by decide, news_mark _ _ _ _ _ rfl⟩)).mono ?_
  rintro e _ ⟨rfl, rfl⟩
  go_wp2_with fail
  refine (sum_to _ _ _ _ crc_zero okb_zero (by decide) (.inr ⟨_, 1, rfl, by decide, news_mark _ _ _ _ _ (by simp)⟩)).mono ?_
  rintro e _ ⟨rfl, rfl⟩
  go_wp2
  go_ret
  exact ⟨rfl, ((B1.out).alloc B1.out.size _).alloc (by have := B1.out.size; simp; omega) _⟩
end Go.Proofs.Ytkmjifjjfbobhaa
