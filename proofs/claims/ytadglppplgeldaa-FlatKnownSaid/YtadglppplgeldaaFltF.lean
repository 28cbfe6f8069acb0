/- Package flat: Find, Parents. Conditions: no more than a million segments; an ID within half of what an int holds. -/
import Derived.Test.YtadglppplgeldaaFltE
namespace Go.Proofs.Ytadglppplgeldaa
open Go.RowKit
set_option maxRecDepth 20000

/-- Does the segment have the ID? -/
def inS (id : Int) (s : Sg) : Bool := decide (s.lo ≤ id) && decide (id ≤ s.hi)
/-- The first segment that has the ID. -/
def fnd (id : Int) : List Sg → Option Nat
  | [] => none
  | s :: l => if inS id s = true then some 0 else (fnd id l).map (· + 1)
theorem fnd_hit {id : Int} : ∀ {l : List Sg} {k : Nat} {s : Sg}, l[k]? = some s → inS id s = true → (∀ t ∈ l.take k, inS id t = false) → fnd id l = some k
  | [], k, s, h, _, _ => by simp at h
  | x :: l, 0, s, h, h1, _ => by
    obtain rfl : x = s := by simpa using h
    unfold fnd; rw [if_pos h1]
  | x :: l, k + 1, s, h, h1, h2 => by
    have ih := fnd_hit (l := l) (k := k) (by simpa using h) h1 (fun t ht => h2 t (by rw [List.take_succ_cons]; exact List.mem_cons_of_mem _ ht))
    have h3 := h2 x (by simp)
    unfold fnd; rw [if_neg (by rw [h3]; decide), ih]; rfl
theorem fnd_no {id : Int} : ∀ {l : List Sg}, (∀ t ∈ l, inS id t = false) → fnd id l = none
  | [], _ => rfl
  | x :: l, h => by
    have ih := fnd_no (l := l) (fun t ht => h t (List.mem_cons_of_mem _ ht))
    have h3 := h x (by simp)
    unfold fnd; rw [if_neg (by rw [h3]; decide), ih]; rfl
theorem fnd_some {id : Int} : ∀ {l : List Sg} {k : Nat}, fnd id l = some k → ∃ s, l[k]? = some s ∧ inS id s = true
  | [], k, h => by cases h
  | x :: l, k, h => by
    unfold fnd at h
    by_cases h1 : inS id x = true
    · rw [if_pos h1] at h
      obtain rfl : 0 = k := Option.some.inj h
      exact ⟨x, rfl, h1⟩
    · rw [if_neg h1] at h
      cases h2 : fnd id l with
      | none => rw [h2] at h; cases h
      | some j =>
        rw [h2] at h
        obtain rfl : j + 1 = k := Option.some.inj h
        obtain ⟨s, h3, h4⟩ := fnd_some h2
        exact ⟨s, by simpa using h3, h4⟩
/-- The parents of an ID, by the segments. -/
def pars (l : List Sg) (id : Int) : List Int := match fnd id l with
  | none => []
  | some k => match l[k]? with
    | none => []
    | some s => if id = s.lo then s.par else [id - 1]
set_option maxHeartbeats 4000000 in
theorem find1_to (w : World) (b : Nat) (id : Int) (x : Value) (s : Sg) (hx : ∃ p n c, x = .slice p n c) (hb : w.cell? ⟨b, 0, none⟩ = some (.int .i64 id)) :
    Calls Try.prog 31 #[sgv x s, .pointer (some ⟨b, 0, none⟩)] w fun e w' => e = .returned (.bool (inS id s)) ∧ Below w.heap.size w w' := by
  obtain ⟨p, n, c, rfl⟩ := hx
  obtain ⟨lo, hi, par, root, head⟩ := s
  have b1 := (Below.refl w.heap.size w).alloc (Nat.le_refl _) (.cells #[.int .i64 lo, .int .i64 hi, .slice p n c, .bool root, .bool head] 33)
  have hc := (b1.cell (p := ⟨b, 0, none⟩) (World.block_lt_of_cell? _ _ hb)).trans hb
  have B1 := Lib.hid b1
  clear hb b1
  by_cases h1 : lo ≤ id
  · have d1 : decide (lo ≤ id) = true := by simpa using h1
    have H1 := Lib.hid h1
    clear h1
    go_enter Try.func31, Try.ntmps31
    go_wp2_with fail
    go_ret
    exact ⟨by simp [inS, H1.out], B1.out⟩
  · have d1 : decide (lo ≤ id) = false := by simpa using h1
    have H1 := Lib.hid h1
    clear h1
    go_enter Try.func31, Try.ntmps31
    go_wp2_with fail
    go_ret
    exact ⟨by have := H1.out; simp [inS]; omega, B1.out⟩
def fidx : Option Nat → Int
  | none => -1
  | some k => k
set_option maxHeartbeats 4000000 in
theorem segidx_to (w : World) (B : Nat) (v : Value) (l : List Sg) (b : Nat) (id : Int) (hs : GS B w v l) (hl : l.length ≤ 1000000) (hb : w.cell? ⟨b, 0, none⟩ = some (.int .i64 id)) :
    Calls Try.prog 30 #[v, .func (.func 31) #[] #[.pointer (some ⟨b, 0, none⟩)]] w fun e w' => e = .returned (.int .i64 (fidx (fnd id l))) ∧ Below w.heap.size w w' := by
  obtain ⟨p, cap, rfl⟩ := hs.form
  obtain ⟨rr, hrr⟩ : ∃ rr, rr = fidx (fnd id l) := ⟨_, rfl⟩
  rw [← hrr]
  have HRR := Lib.hid hrr
  clear hrr
  have HS := Lib.hid hs
  have HB := Lib.hid hb
  obtain ⟨n, hn'⟩ : ∃ n, n = l.length := ⟨_, rfl⟩
  rw [← hn'] at hl HS ⊢
  have HL := Lib.hid hn'
  have HM := Lib.hid hl
  clear hs hn' hb hl
  go_enter Try.func30, Try.ntmps30
  go_wp2_with fail
  go_loopw [8] (fun i wr => ∃ k : Nat, k ≤ n ∧ i = .int .i64 k ∧ Hid (∀ t ∈ l.take k, inS id t = false) ∧ Hid (Below w.heap.size w wr)) (fun i _ => n - (intOf i).toNat)
  case atStart => exact ⟨0, Nat.zero_le _, rfl, Lib.hid (fun t ht => by simp at ht), Lib.hid (Below.refl _ w)⟩
  case round =>
    obtain ⟨k, hk, rfl, H, B1⟩ := hrel
    by_cases hlt : k < n
    · obtain ⟨j1, j2, j3⟩ := next5 hlt HM.out
      have hkl : k < l.length := by rw [← HL.out]; exact hlt
      obtain ⟨bb, o, x, rfl, r0, jx⟩ := (HS.out.kb B1.out).at hkl
      have HGE := Lib.hid (List.getElem?_eq_getElem hkl)
      have HTK : Hid (l.take (k + 1) = l.take k ++ [l[k]]) := Lib.hid (List.take_succ_eq_append_getElem hkl)
      generalize l[k] = s at *
      obtain ⟨px, cx, rfl⟩ := jx.form
      obtain ⟨np, hnp⟩ : ∃ np, np = s.par.length := ⟨_, rfl⟩
      rw [← hnp] at r0
      obtain ⟨a1, a2, a3, a4, a5⟩ := sg_cells r0
      have HIN := Lib.hid (find1_to wr b id (.slice px np cx) s ⟨_, _, _, rfl⟩ ((B1.out.cell (p := ⟨b, 0, none⟩) (World.block_lt_of_cell? _ _ HB.out)).trans HB.out))
      obtain ⟨q, hq⟩ : ∃ q, q = inS id s := ⟨_, rfl⟩
      rw [← hq] at HIN
      have HQ := Lib.hid hq
      have HLT := Lib.hid hlt
      have hgs := gsize
      clear hq jx hnp r0 hkl hk hlt
      go_wp2_with fail
      refine HIN.out.mono ?_
      rintro e w2 ⟨rfl, b2⟩
      have B2 := Lib.hid (B1.out.trans (b2.mono B1.out.size))
      clear b2
      cases q with
      | true =>
        go_wp2_with fail
        go_ret
        exact ⟨by rw [HRR.out, fnd_hit HGE.out HQ.out.symm H.out]; rfl, B2.out⟩
      | false =>
        go_wp2_with fail
        refine ⟨⟨k + 1, HLT.out, by rw [j1], Lib.hid (fun t ht => by
          rw [HTK.out] at ht
          rcases List.mem_append.1 ht with ht | ht
          · exact H.out t ht
          · rw [List.mem_singleton.1 ht]; exact HQ.out.symm), B2⟩, ?_⟩
        rw [j1]; exact meas5 HLT.out
    · obtain rfl : k = n := Nat.le_antisymm hk (Nat.le_of_not_lt hlt)
      go_wp2_with fail
      go_ret
      have h := H.out
      rw [HL.out, List.take_length] at h
      exact ⟨by rw [HRR.out, fnd_no h]; rfl, B1.out⟩
set_option maxHeartbeats 4000000 in
theorem find5_to (w : World) (B : Nat) (v : Value) (l : List Sg) (id : Int) (hs : GS B w v l) (hl : l.length ≤ 1000000) :
    Calls Try.prog 9 #[v, .int .i64 id] w fun e w' => e = .returned (.tuple #[.int .i64 ((fnd id l).getD 0 : Nat), .bool (fnd id l).isSome]) ∧ Below w.heap.size w w' := by
  have b1 := (Below.refl w.heap.size w).alloc (Nat.le_refl _) (.cells #[.int .i64 id] 3)
  have hc := cell_ob5 (heap_alloc_last w (.cells #[.int .i64 id] 3)) 0 rfl
  have HC := Lib.hid (segidx_to (w.alloc (.cells #[.int .i64 id] 3)) B v l w.heap.size id (hs.kb b1) hl hc)
  have B1 := Lib.hid b1
  obtain ⟨p, cap, rfl⟩ := hs.form
  clear hs hl b1 hc
  go_enter Try.func9, Try.ntmps9
  go_wp2_with fail
  refine HC.out.mono ?_
  rintro e w2 ⟨rfl, b2⟩
  have B2 := Lib.hid (B1.out.trans (b2.mono B1.out.size))
  clear b2 HC
  cases hf : fnd id l with
  | none =>
    rw [show fidx none = -1 from rfl]
    go_wp2_with fail
    go_ret2
    rw [hf]
    exact ⟨rfl, B2.out⟩
  | some k =>
    rw [show fidx (some k) = (k : Int) from rfl]
    have d1 : decide ((k : Int) ≥ 0) = true := by simp
    have d2 : ¬ (k : Int) < 0 := by omega
    have d3 : (0 : Int) ≤ k := by omega
    go_wp2_with fail
    go_ret2
    rw [hf]
    exact ⟨by simp, B2.out⟩
set_option maxHeartbeats 4000000 in
theorem pars_to (w : World) (B : Nat) (v : Value) (l : List Sg) (id : Int) (hs : GS B w v l) (hl : l.length ≤ 1000000) (hid : -4611686018427387904 ≤ id ∧ id ≤ 4611686018427387904) (hp : ∀ s ∈ l, s.par.length ≤ 1000000) :
    Calls Try.prog 14 #[v, .int .i64 id] w fun e w' => ∃ v', e = .returned v' ∧ JOwn w' w.heap.size v' (pars l id) ∧ Below w.heap.size w w' := by
  have HC := Lib.hid (find5_to w B v l id hs hl)
  have HS := Lib.hid hs
  have HP := Lib.hid hp
  obtain ⟨p, cap, rfl⟩ := hs.form
  obtain ⟨n, hn⟩ : ∃ n, n = l.length := ⟨_, rfl⟩
  rw [← hn] at HC HS ⊢
  have HN := Lib.hid hn
  have hw1 : wrap64 (id - 1) = id - 1 := by unfold wrap64; omega
  clear hs hl hn hid hp
  go_enter Try.func14, Try.ntmps14
  go_wp2_with fail
  refine HC.out.mono ?_
  rintro e w2 ⟨rfl, b2⟩
  have B2 := Lib.hid b2
  have HS2 := Lib.hid (HS.out.kb b2)
  clear b2 HC HS
  cases hf : fnd id l with
  | none =>
    have HPA : Hid (pars l id = []) := Lib.hid (by unfold pars; rw [hf])
    go_wp2_with fail
    go_ret
    exact ⟨_, rfl, by rw [HPA.out]; exact World.ownsRow_nil _ _ _ _, B2.out⟩
  | some k =>
    obtain ⟨s, hks, _⟩ := fnd_some hf
    have hkl := (List.getElem?_eq_some_iff.1 hks).1
    have hpa : pars l id = if id = s.lo then s.par else [id - 1] := by unfold pars; rw [hf]; simp only [hks]
    obtain ⟨bb, o, x, rfl, r0, jx⟩ := HS2.out.at hkl
    rw [(List.getElem?_eq_some_iff.1 hks).2] at r0 jx
    obtain ⟨px, cx, rfl⟩ := jx.form
    obtain ⟨np, hnp⟩ : ∃ np, np = s.par.length := ⟨_, rfl⟩
    rw [← hnp] at r0 jx
    obtain ⟨a1, a2, a3, a4, a5⟩ := sg_cells r0
    have j2 : (0 : Int) ≤ k := Int.natCast_nonneg _
    have j3 : (k : Int) < n := by rw [HN.out]; omega
    have hgs := gsize
    have JX := Lib.hid jx
    have HPL := Lib.hid (HP.out s (List.mem_of_getElem? hks))
    have HPA := Lib.hid hpa
    clear hkl hks hnp jx r0 hpa hf
    by_cases hc : id = s.lo
    · have d1 : (id == s.lo) = true := by simpa using hc
      have HCC := Lib.hid hc
      clear hc
      go_wp2_with fail
      refine (nclone_to w2 _ s.par JX.out.1 HPL.out).mono ?_
      rintro e w3 ⟨v3, rfl, o3, b3⟩
      have O3 := Lib.hid (o3.mono B2.out.size)
      have B3 := Lib.hid (B2.out.trans (b3.mono B2.out.size))
      clear o3 b3
      go_wp2_with fail
      go_ret
      exact ⟨_, rfl, by rw [HPA.out, if_pos HCC.out]; exact O3.out, B3.out⟩
    · have d1 : (id == s.lo) = false := by simpa using hc
      have HCC := Lib.hid hc
      clear hc
      go_wp2_with fail
      go_ret
      exact ⟨_, rfl, by rw [HPA.out, if_neg HCC.out]; exact ⟨rfl, .inr ⟨_, 1, _, rfl, B2.out.size, heap_alloc_last w2 _, Nat.le_refl _, by decide, rfl, rfl⟩⟩, B2.out.alloc B2.out.size _⟩
end Go.Proofs.Ytadglppplgeldaa
