/- hex.Sort: the hashes in ascending order, each once, in memory of the call's own. Condition: the slice is within what a slice may take up. -/
import Derived.Test.YthfkmfepeafgjaaHexSf
import Derived.Test.YthfkmfepeafgjaaHexSk
namespace Go.Proofs.Ythfkmfepeafgjaa
open Go.RowKit

theorem hcompact_none (w : World) (p : Option Addr) (cap : Nat) : Calls Try.prog 70 #[.slice p 0 cap] w fun e w' => e = .returned (.slice p 0 cap) ∧ w = w' := by
  go_enter Try.func70, Try.ntmps70
  go_wp2
  go_ret
  exact ⟨rfl, rfl⟩
theorem own_form {w : World} {B : Nat} {v : Value} (h : HOwn w B v []) : ∃ p cap, v = .slice p 0 cap := by
  rcases h.2 with ⟨rfl, _⟩ | ⟨g, cap, cur, rfl, _⟩
  · exact ⟨_, _, rfl⟩
  · exact ⟨_, _, rfl⟩

/-- What Sort leaves. -/
def SoPost (w : World) (E : List (List UInt8)) (e : Ending) (w' : World) : Prop := ∃ v', e = .returned v' ∧ HOwn w' w.heap.size v' (rsort E) ∧ Below w.heap.size w w'

set_option maxRecDepth 20000 in
set_option maxHeartbeats 1000000 in
theorem sort_to (w : World) (v : Value) (E : List (List UInt8)) (hE : H32 E) (hl : E.length * 32 ≤ 140737488355328) (hs : HSeen w v E) : Calls Try.prog 56 #[v] w (SoPost w E) := by
  have HC := Lib.hid (hclone_any w v E hE hl hs)
  have HE := Lib.hid hE
  clear hs hE
  by_cases h0 : E.length = 0
  · obtain rfl : E = [] := List.eq_nil_of_length_eq_zero h0
    have hsn : ∀ p cap W, Calls Try.prog 68 #[.slice p 0 cap, .func (.func 69) #[] #[]] W fun e w' => e = .returned (.tuple #[]) ∧ w' = W := fun p cap W =>
      hsort_none p cap W
    have HS := Lib.hid hsn
    clear hsn h0 hl
    go_enter Try.func56, Try.ntmps56
    go_wp2_with fail
    refine HC.out.mono ?_
    rintro e w1 ⟨v1, rfl, o1, b1⟩
    obtain ⟨p, cap, rfl⟩ := own_form o1
    have O1 := Lib.hid o1
    have B1 := Lib.hid b1
    clear o1 b1
    go_wp2_with fail
    refine (HS.out p cap w1).mono ?_
    rintro e w2 ⟨rfl, rfl⟩
    go_wp2_with fail
    refine (hcompact_none w2 p cap).mono ?_
    rintro e w3 ⟨rfl, rfl⟩
    go_wp2_with fail
    go_ret
    exact ⟨_, rfl, O1.out, B1.out⟩
  · go_enter Try.func56, Try.ntmps56
    go_wp2_with fail
    refine HC.out.mono ?_
    rintro e w1 ⟨v1, rfl, o1, b1⟩
    obtain ⟨g, cap, R, rfl, hb, hg, hc, hm, hR⟩ := o1.row (by omega)
    have HS := Lib.hid (hsort_to w1 g cap E HE.out R hg (by omega))
    have B1 := Lib.hid b1
    have HR := Lib.hid hR
    have HBG := Lib.hid hb
    clear o1 b1 hg hR hb HC
    go_wp2_with fail
    refine HS.out.mono ?_
    rintro e w2 ⟨rfl, E', e32, hlen, hmem, hsort, hg2, on2⟩
    have HK := Lib.hid (hcompact_to w2 g cap E' e32 R hg2 (by rw [hlen]; exact hc) hm (by rw [hlen]; exact HR.out))
    rw [hlen] at HK
    have hcr := cpt_rsort hsort hmem
    have HCR := Lib.hid hcr
    have HX := Lib.hid (show (cpt E').length ≤ E.length from hlen ▸ cpt_length E')
    have ON2 := Lib.hid on2
    clear e32 hlen hmem hsort hg2 on2 hcr HS
    go_wp2_with fail
    refine HK.out.mono ?_
    rintro e w3 hp
    obtain ⟨rfl, R', h1, h2, h3⟩ := hp
    have H1 := Lib.hid h1
    have H2 := Lib.hid h2
    have H3 := Lib.hid h3
    clear h1 h2 h3 HK
    go_wp2_with fail
    go_ret
    have h1 := H1.out
    have h2 := H2.out
    have hx := HX.out
    rw [HCR.out] at h1 h2 hx ⊢
    refine ⟨_, rfl, hown_mk (rsort_h32 HE.out) rfl HBG.out h1 (by omega) hm h2, ?_⟩
    have hon := (ON2.out.trans H3.out (U := fun k => k = g) (fun _ h => h) (fun _ _ h => h))
    have hon2 := (Only.of_below (S := fun k => w.heap.size ≤ k) B1.out).trans (hon.mono (T := fun k => w.heap.size ≤ k) (fun x _ h => by have := HBG.out; omega)) (fun _ h => h) (fun _ _ h => h)
    exact hon2.below (Nat.le_refl _) (fun _ h => h)
end Go.Proofs.Ythfkmfepeafgjaa
