/- Has: IndexFunc and ContainsFunc over spans. Condition: no more than a million spans. -/
import Derived.Test.YtpjfgkjhhmfhkaaSpnT
import Derived.Test.YtpjfgkjhhmfhkaaSpnA
namespace Go.Proofs.Ytpjfgkjhhmfhkaa
open Go.RowKit
set_option maxHeartbeats 2000000 in
theorem in_to (w : World) (b : Nat) (x : Int) (s : Sp) (hb : w.cell? ⟨b, 0, none⟩ = some (.int .i64 x)) : Calls Try.prog 50 #[spv s, .pointer (some ⟨b, 0, none⟩)] w fun e w' => e = .returned (.bool (decide (s.1 ≤ x ∧ x ≤ s.2))) ∧ Below w.heap.size w w' := by
  obtain ⟨s1, s2⟩ := s
  simp only
  have b1 := (Below.refl w.heap.size w).alloc (Nat.le_refl _) (.cells #[.int .i64 s1, .int .i64 s2] 23)
  have c := (b1.cell (p := ⟨b, 0, none⟩) (World.block_lt_of_cell? _ _ hb)).trans hb
  have B1 := Lib.hid b1
  clear hb b1
  by_cases h1 : s1 ≤ x
  · have d1 : decide (s1 ≤ x) = true := by simpa using h1
    have H1 := Lib.hid h1
    clear h1
    go_enter Try.func50, Try.ntmps50
    go_wp2_with fail
    go_ret
    exact ⟨by simp [H1.out], B1.out⟩
  · have d1 : decide (s1 ≤ x) = false := by simpa using h1
    have H1 := Lib.hid h1
    clear h1
    go_enter Try.func50, Try.ntmps50
    go_wp2_with fail
    go_ret
    exact ⟨by have := H1.out; simp; try omega, B1.out⟩
/-- The number is in one of the first k spans. -/
def hasB (l : List Sp) (x : Int) : Bool := l.any fun s => decide (s.1 ≤ x ∧ x ≤ s.2)
theorem hasB_iff {l : List Sp} {x : Int} : (decide (0 ≤ x) && hasB l x) = true ↔ Has l x := by
  unfold hasB Has
  simp
theorem hasB_at {l : List Sp} {k : Nat} {s : Sp} {x : Int} (h : l[k]? = some s) (h1 : decide (s.1 ≤ x ∧ x ≤ s.2) = true) : hasB l x = true := List.any_eq_true.2 ⟨s, List.mem_of_getElem? h, h1⟩
theorem hasB_snoc {l : List Sp} {s : Sp} {x : Int} (h : hasB l x = false) (h1 : decide (s.1 ≤ x ∧ x ≤ s.2) = false) : hasB (l ++ (some s).toList) x = false := by
  unfold hasB at h ⊢
  rw [List.any_append, h]
  simpa using h1
set_option maxHeartbeats 4000000 in
theorem index_to (w : World) (v : Value) (l : List Sp) (b : Nat) (x : Int) (hs : SSeen w v l) (hl : l.length ≤ 1000000) (hb : w.cell? ⟨b, 0, none⟩ = some (.int .i64 x)) :
    Calls Try.prog 57 #[v, .func (.func 50) #[] #[.pointer (some ⟨b, 0, none⟩)]] w fun e w' => (∃ i : Int, e = .returned (.int .i64 i) ∧ decide (i ≥ 0) = hasB l x) ∧ Below w.heap.size w w' := by
  obtain ⟨p, cap, rfl⟩ := hs.form
  have HS := Lib.hid hs
  have HB := Lib.hid hb
  obtain ⟨n, hn'⟩ : ∃ n, n = l.length := ⟨_, rfl⟩
  rw [← hn'] at hl HS ⊢
  have HL := Lib.hid hn'
  clear hs hn' hb
  go_enter Try.func57, Try.ntmps57
  go_wp2_with fail
  go_loopw [8] (fun i wr => ∃ k : Nat, k ≤ n ∧ i = .int .i64 k ∧ Hid (hasB (l.take k) x = false) ∧ Hid (Below w.heap.size w wr)) (fun i _ => n - (intOf i).toNat)
  case atStart => exact ⟨0, Nat.zero_le _, rfl, Lib.hid rfl, Lib.hid (Below.refl _ w)⟩
  case round =>
    obtain ⟨k, hk, rfl, H, B⟩ := hrel
    by_cases hlt : k < n
    · have hkl : k < l.length := by rw [← HL.out]; exact hlt
      obtain ⟨bb, o, rfl, c1, c2⟩ := (HS.out.kb B.out).at hkl
      have hk' : (k : Int) < n := by omega
      have hr := two_range c1 c2
      have hin := in_to wr b x l[k] (((B.out.cell (p := ⟨b, 0, none⟩) (World.block_lt_of_cell? _ _ HB.out))).trans HB.out)
      have HNX := Lib.hid (List.take_add_one (l := l) (i := k))
      rw [List.getElem?_eq_getElem hkl] at HNX
      have HGE := Lib.hid (List.getElem?_eq_getElem hkl)
      generalize l[k] = s at *
      obtain ⟨q, hq⟩ : ∃ q, q = decide (s.1 ≤ x ∧ x ≤ s.2) := ⟨_, rfl⟩
      rw [← hq] at hin
      have HQ := Lib.hid hq
      have HIN := Lib.hid hin
      clear hq hin
      cases q with
      | true =>
        go_wp2_with (first
          | (refine load_to (cs := [.int .i64 s.1, .int .i64 s.2]) hr Try.underlying23 rfl spsize ?hx ?_; (case hx => rfl))
          | (go_at_call 50; refine HIN.out.mono ?_; rintro e w2 ⟨rfl, b2⟩; have B2 := Lib.hid (B.out.trans (b2.mono B.out.size)); clear b2))
        go_ret
        refine ⟨⟨k, rfl, ?_⟩, B2.out⟩
        rw [hasB_at HGE.out HQ.out.symm]
        simp
      | false =>
        go_wp2_with (first
          | (refine load_to (cs := [.int .i64 s.1, .int .i64 s.2]) hr Try.underlying23 rfl spsize ?hx ?_; (case hx => rfl))
          | (go_at_call 50; refine HIN.out.mono ?_; rintro e w2 ⟨rfl, b2⟩; have B2 := Lib.hid (B.out.trans (b2.mono B.out.size)); clear b2))
        exact ⟨⟨k + 1, by omega, by go_num, Lib.hid (by rw [HNX.out]; exact hasB_snoc H.out HQ.out.symm), B2⟩, by simp [intOf]; omega⟩
    · obtain rfl : k = n := by omega
      go_wp2_with fail
      go_ret
      refine ⟨⟨-1, rfl, ?_⟩, B.out⟩
      have h := H.out
      rw [HL.out, List.take_length] at h
      rw [h]; rfl
set_option maxHeartbeats 4000000 in
theorem contains_to (w : World) (v : Value) (l : List Sp) (b : Nat) (x : Int) (hs : SSeen w v l) (hl : l.length ≤ 1000000) (hb : w.cell? ⟨b, 0, none⟩ = some (.int .i64 x)) :
    Calls Try.prog 49 #[v, .func (.func 50) #[] #[.pointer (some ⟨b, 0, none⟩)]] w fun e w' => e = .returned (.bool (hasB l x)) ∧ Below w.heap.size w w' := by
  have HI := Lib.hid (index_to w v l b x hs hl hb)
  obtain ⟨p, cap, rfl⟩ := hs.form
  obtain ⟨r, hr⟩ : ∃ r, r = hasB l x := ⟨_, rfl⟩
  rw [← hr] at HI ⊢
  clear hs hl hb hr
  go_enter Try.func49, Try.ntmps49
  go_wp2_with fail
  refine HI.out.mono ?_
  rintro e w1 ⟨⟨i, rfl, hi⟩, b1⟩
  have B1 := Lib.hid b1
  have HIE := Lib.hid hi
  clear b1 hi
  go_wp2_with fail
  go_ret
  refine ⟨?_, B1.out⟩
  rw [← HIE.out]
  simp
set_option maxHeartbeats 4000000 in
theorem has_to (w : World) (v : Value) (l : List Sp) (x : Int) (hs : SSeen w v l) (hl : l.length ≤ 1000000) :
    Calls Try.prog 32 #[v, .int .i64 x] w fun e w' => e = .returned (.bool (decide (0 ≤ x) && hasB l x)) ∧ Below w.heap.size w w' := by
  have b1 := (Below.refl w.heap.size w).alloc (Nat.le_refl _) (.cells #[.int .i64 x] 3)
  have hc : (w.alloc (.cells #[.int .i64 x] 3)).cell? ⟨w.heap.size, 0, none⟩ = some (.int .i64 x) := by
    rw [cell_of_row _ _ 0 _ _ _ (heap_alloc_last w _), List.getElem?_toArray]; rfl
  have HC := Lib.hid (contains_to (w.alloc (.cells #[.int .i64 x] 3)) v l w.heap.size x (hs.kb b1) hl hc)
  have B1 := Lib.hid b1
  obtain ⟨p, cap, rfl⟩ := hs.form
  obtain ⟨r, hr⟩ : ∃ r, r = hasB l x := ⟨_, rfl⟩
  rw [← hr] at HC ⊢
  clear hs hl b1 hr
  by_cases h0 : 0 ≤ x
  · have d0 : decide (x ≥ 0) = true := by simpa using h0
    have d1 : decide (0 ≤ x) = true := by simpa using h0
    rw [d1]
    clear h0
    go_enter Try.func32, Try.ntmps32
    go_wp2_with fail
    refine HC.out.mono ?_
    rintro e w2 ⟨rfl, b2⟩
    have B2 := Lib.hid (B1.out.trans (b2.mono B1.out.size))
    clear b2
    go_wp2_with fail
    go_ret
    exact ⟨rfl, B2.out⟩
  · have d0 : decide (x ≥ 0) = false := by simpa using h0
    have d1 : decide (0 ≤ x) = false := by simpa using h0
    rw [d1]
    clear h0
    go_enter Try.func32, Try.ntmps32
    go_wp2_with fail
    go_ret
    exact ⟨rfl, B1.out⟩
end Go.Proofs.Ytpjfgkjhhmfhkaa
