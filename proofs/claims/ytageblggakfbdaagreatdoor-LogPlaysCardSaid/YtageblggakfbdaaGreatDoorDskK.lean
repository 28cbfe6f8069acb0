/- The chapter's example returns true. No condition. -/
import Derived.Test.YtageblggakfbdaaGreatDoorDskN
import Derived.Lib.SlBytesConst
namespace Go.Proofs.YtageblggakfbdaaGreatDoor
open Go.RowKit
open Go.Maps

theorem conv_own {w : World} {B : Nat} {v : Value} {l : List Int} (h : BOwn w B v l) : (convert 29 9 v).run Tryz.prog w = .ok (.string (strOfNums l)) w := by
  have hs := Seen.own h
  rcases h.2 with ⟨rfl, h0⟩ | ⟨g, cap, cur, rfl, _⟩
  · obtain rfl : l = [] := List.eq_nil_of_length_eq_zero h0
    exact run_convert_bytes_nil w _ _ Tryz.underlying29 Tryz.underlying5 0 0 _ Tryz.underlying9
  · rcases hs with ⟨h1, _⟩ | ⟨a, cap', h1, hc, hu⟩
    · cases h1
    · cases h1
      refine run_convert_bytes_arg w _ _ Tryz.underlying29 Tryz.underlying5 g 0 _ cap l rfl (fun i hi => ?_) _ Tryz.underlying9
      have := hu i _ (show (us l)[i]? = some (.int .u8 (l.getD i 0)) from by simp [us, List.getElem?_map, List.getD, List.getElem?_eq_getElem hi])
      rwa [Addr.add_lit] at this
theorem seen_lit2 (w : World) (l : List Int) (n c : Nat) (hn : l.length = n) (hc : n ≤ c) (e : TypeId) (fr : Nat × Nat) (b : Nat) (hb : b = w.heap.size) : Seen (w.alloc (.cells (us l).toArray e fr)) (.slice (some ⟨b, 0, none⟩) n c) l := by
  subst hb
  subst hn
  refine .inr ⟨⟨w.heap.size, 0, none⟩, c, rfl, hc, fun j u h => ?_⟩
  rw [Addr.add_lit, Nat.zero_add, World.cell?_alloc_mark w _ e fr j]
  simpa using h
theorem DS.lt {w : World} {B b : Nat} {S : Nat → Prop} {s : St} (h : DS w B b S s) : ∀ k, S k → k < w.heap.size := by
  obtain ⟨c, L, P, h⟩ := h
  exact h.lt
def ks0 : St := St.new 100
theorem ka1 : (ks0.append [102] [97, 98, 99]).1 = 0 := by decide +kernel
def ks1 : St := (ks0.append [102] [97, 98, 99]).2
def ks2 : St := ks1.crash 0 2
theorem ka2 : ks1.works ≤ 1000000000 := by decide +kernel
theorem ka3 : fbytes [102] ks2.files = [97, 98] ∧ (aget [102] ks2.files).isSome = true ∧ ks2.dead = false ∧ ks2.pend.length = 0 ∧ ks2.works = 1 := by decide +kernel
set_option maxRecDepth 20000 in
set_option maxHeartbeats 1000000 in
theorem known_to (w : World) : Calls Tryz.prog 7 #[] w fun e w' => e = .returned (.bool true) ∧ Below w.heap.size w w' := by
  have kc := fun (w : World) (C : Array Value) (n c : Nat) => Lib.run_convert_bytes_const (P := Tryz.prog) w 29 5 C n c Tryz.underlying29 Tryz.underlying5
  go_enter Tryz.func7, Tryz.ntmps7
  go_wp2_with fail
  refine (new_to w 100).mono ?_
  rintro e w1 ⟨b, S, rfl, h1, b1, hS⟩
  have H1 : Hid (DS w1 w.heap.size b S ks0) := Lib.hid h1
  have B1 := Lib.hid b1
  have HS := Lib.hid hS
  clear h1 b1 hS
  go_wp2_with fail
  have b2 : Below w1.heap.size w1 (w1.alloc (.cells #[.int .u8 97, .int .u8 98, .int .u8 99] 5 (3, 4))) := (Below.refl _ w1).alloc (Nat.le_refl _) _
  have hse : Seen (w1.alloc (.cells #[.int .u8 97, .int .u8 98, .int .u8 99] 5 (3, 4))) (.slice (some ⟨w1.heap.size, 0, none⟩) 3 3) [97, 98, 99] := seen_lit2 w1 [97, 98, 99] 3 3 rfl (by decide) _ _ _ rfl
  have hsl : ∀ k, S k → k < w1.heap.size := H1.out.lt
  refine (append_to _ w.heap.size b S ks0 [102] (.slice (some ⟨w1.heap.size, 0, none⟩) 3 3) [97, 98, 99] (H1.out.kb b2) (by decide) (by decide) (by decide) hse (fun k hk hs => by cases hk; exact absurd (hsl _ hs) (Nat.lt_irrefl _)) (by decide)).mono ?_
  rintro e w2 ⟨rfl, S2, h2, o2, s2⟩
  have H2 : Hid (DS w2 w.heap.size b S2 ks1) := Lib.hid h2
  have B2 : Hid (Below w.heap.size w w2) := Lib.hid ((B1.out.trans (b2.mono B1.out.size)).trans (o2.below (by have := B1.out.size; simp; omega) (fun k hk => HS.out k hk)))
  have HS2 : Hid (∀ k, S2 k → w.heap.size ≤ k) := Lib.hid (fun k hk => by
    rcases s2 k hk with e | e
    · exact HS.out k e
    · have h1 := B1.out.size
      have h2 : w1.heap.size + 1 ≤ k := by simpa using e
      omega)
  rw [ka1]
  clear h2 o2 s2 b2 hse hsl H1 B1 HS
  rw [show enoOf 0 = .nilIface from rfl]
  go_wp2_with fail
  refine (crash_to w2 _ b S2 ks1 0 2 H2.out ka2).mono ?_
  rintro e w3 ⟨rfl, S3, h3, o3, s3⟩
  have H3 : Hid (DS w3 w.heap.size b S3 ks2) := Lib.hid h3
  have B3 : Hid (Below w.heap.size w w3) := Lib.hid (B2.out.trans (o3.below B2.out.size (fun k hk => HS2.out k hk)))
  clear h3 o3 s3 H2 B2 HS2
  go_wp2_with fail
  refine (read_to w3 _ b S3 ks2 [102] H3.out (by decide)).mono ?_
  rintro e w4 ⟨v, rfl, o4, b4⟩
  obtain ⟨q1, q2, q3, q4, q5⟩ := ka3
  rw [q3] at o4
  rw [q3, q2]
  simp only [Bool.false_eq_true, if_false] at o4 ⊢
  rw [q1] at o4
  have hcv := conv_own o4
  rw [show strOfNums [97, 98] = ⟨#[97, 98]⟩ from rfl] at hcv
  have H4 := Lib.hid (H3.out.kb b4)
  have B4 : Hid (Below w.heap.size w w4) := Lib.hid (B3.out.trans (b4.mono B3.out.size))
  have HP := Lib.hid (pending_ds w4 _ b S3 ks2 H4.out)
  have HW := Lib.hid (works_ds w4 _ b S3 ks2 H4.out)
  rw [q4] at HP
  rw [q5] at HW
  obtain ⟨p4, c4, e4⟩ := own_slice o4
  rw [show ([97, 98] : List Int).length = 2 from rfl] at e4
  subst e4
  clear o4 b4 H3 B3 q1 q2 q3 q4 q5
  go_wp2_with (first
    | (go_at_call 39; refine HP.out.mono ?_; rintro e w' ⟨rfl, rfl⟩)
    | (go_at_call 40; refine HW.out.mono ?_; rintro e w' ⟨rfl, rfl⟩))
  go_ret
  exact ⟨rfl, B4.out⟩
end Go.Proofs.YtageblggakfbdaaGreatDoor
