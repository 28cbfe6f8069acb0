/- Package flat: equal, slices.Equal of numbers, slices.EqualFunc of segments. Conditions: no more than a million of each. -/
import Derived.Test.YtadglppplgeldaaFltF
namespace Go.Proofs.Ytadglppplgeldaa
open Go.RowKit
set_option maxRecDepth 20000

set_option maxHeartbeats 4000000 in
theorem nequal_to (w : World) (v u : Value) (a b : List Int) (hv : NSeen w v a) (hu : NSeen w u b) (hl : a.length ≤ 1000000) :
    Calls Try.prog 41 #[v, u] w fun e w' => (∃ r, e = .returned (.bool r) ∧ (r = true ↔ a = b)) ∧ Below w.heap.size w w' := by
  obtain ⟨p, cap, rfl⟩ := hv.form
  obtain ⟨p', cap', rfl⟩ := hu.form
  by_cases hne : a.length = b.length
  · have HV := Lib.hid hv
    have HU := Lib.hid hu
    obtain ⟨n, hn⟩ : ∃ n, n = a.length := ⟨_, rfl⟩
    rw [← hne, ← hn] at HU ⊢
    rw [← hn] at HV hl
    have HN := Lib.hid hn
    have HNE := Lib.hid hne
    have de : ((n : Int) != (n : Int)) = false := by simp
    clear hv hu hn hne
    go_enter Try.func41, Try.ntmps41
    go_wp2_with fail
    go_loopw [13] (fun i wr => ∃ k : Nat, k ≤ n ∧ i = .int .i64 k ∧ Hid (a.take k = b.take k) ∧ Hid (Below w.heap.size w wr)) (fun i _ => n - (intOf i).toNat)
    case atStart => exact ⟨0, Nat.zero_le _, rfl, Lib.hid (by simp), Lib.hid (Below.refl _ w)⟩
    case round =>
      obtain ⟨k, hk, rfl, E, B⟩ := hrel
      by_cases hlt : k < n
      · have hka : k < a.length := by rw [← HN.out]; exact hlt
        have hkb : k < b.length := by rw [← HNE.out]; exact hka
        obtain ⟨x, rfl, h1⟩ := (HV.out.kb B.out).at hka
        obtain ⟨y, rfl, h2⟩ := (HU.out.kb B.out).at hkb
        have hk' : (k : Int) < n := by omega
        have HNEXT := Lib.hid (List.take_add_one (l := a) (i := k))
        have HNEXB := Lib.hid (List.take_add_one (l := b) (i := k))
        rw [List.getElem?_eq_getElem hka] at HNEXT
        rw [List.getElem?_eq_getElem hkb] at HNEXB
        have HGA := Lib.hid (List.getElem?_eq_getElem hka)
        have HGB := Lib.hid (List.getElem?_eq_getElem hkb)
        generalize a[k] = xa at *
        generalize b[k] = xb at *
        by_cases c : xa = xb
        · have dc : (xa != xb) = false := by simpa using c
          have C := Lib.hid c
          clear c
          go_wp2_with fail
          go_quiet (fail)
          go_wp2_with fail
          exact ⟨⟨k + 1, by omega, by go_num, Lib.hid (by rw [HNEXT.out, HNEXB.out, E.out, C.out]), Lib.hid (below_drn10 B.out _)⟩, by simp [intOf]; omega⟩
        · have dc : (xa != xb) = true := by simpa using c
          have C := Lib.hid c
          clear c
          go_wp2_with fail
          go_quiet (fail)
          go_wp2_with fail
          go_ret
          refine ⟨⟨false, rfl, ⟨fun h => (by simp at h), fun h => ?_⟩⟩, below_drn10 B.out _⟩
          have h1 := HGA.out
          rw [h, HGB.out] at h1
          exact absurd (Option.some.inj h1).symm C.out
      · obtain rfl : k = n := by omega
        go_wp2_with fail
        go_ret
        refine ⟨⟨true, rfl, ⟨fun _ => ?_, fun _ => rfl⟩⟩, B.out⟩
        have h := E.out
        rw [HN.out, List.take_length, HNE.out, List.take_length] at h
        exact h
  · have de : ((a.length : Int) != (b.length : Int)) = true := by simp; omega
    have HNE := Lib.hid hne
    clear hne hv hu
    go_enter Try.func41, Try.ntmps41
    go_wp2_with fail
    go_ret
    exact ⟨⟨false, rfl, ⟨fun h => (by simp at h), fun h => absurd (congrArg List.length h) HNE.out⟩⟩, Below.refl _ w⟩
set_option maxHeartbeats 8000000 in
theorem equal5_to (w : World) (x y : Value) (s t : Sg) (hx : NSeen w x s.par) (hy : NSeen w y t.par) (hl : s.par.length ≤ 1000000) :
    Calls Try.prog 34 #[sgv x s, sgv y t] w fun e w' => (∃ r, e = .returned (.bool r) ∧ (r = true ↔ s = t)) ∧ Below w.heap.size w w' := by
  obtain ⟨lo, hi, par, root, head⟩ := s
  obtain ⟨lo2, hi2, par2, root2, head2⟩ := t
  simp only at hx hy hl
  obtain ⟨p, c, rfl⟩ := hx.form
  obtain ⟨q, d, rfl⟩ := hy.form
  obtain ⟨n, hn⟩ : ∃ n, n = par.length := ⟨_, rfl⟩
  obtain ⟨m, hm⟩ : ∃ m, m = par2.length := ⟨_, rfl⟩
  rw [← hn] at hx
  rw [← hm] at hy
  simp only [← hn, ← hm]
  have HL := Lib.hid hl
  have B2 := Lib.hid (show Below w.heap.size w ((w.alloc (.cells #[.int .i64 lo, .int .i64 hi, .slice p n c, .bool root, .bool head] 33)).alloc (.cells #[.int .i64 lo2, .int .i64 hi2, .slice q m d, .bool root2, .bool head2] 33)) from ((Below.refl _ w).alloc (Nat.le_refl _) _).alloc (by simp) _)
  have HX := Lib.hid (hx.kb B2.out)
  have HY := Lib.hid (hy.kb B2.out)
  clear hx hy hl hn hm
  have fals : ∀ P : Prop, ¬ P → (false = true ↔ P) := fun P h => ⟨fun h2 => (by cases h2), fun h2 => absurd h2 h⟩
  have FA := Lib.hid fals
  clear fals
  go_enter Try.func34, Try.ntmps34
  by_cases c1 : lo = lo2
  · subst c1
    by_cases c2 : hi = hi2
    · subst c2
      by_cases c3 : root = root2
      · subst c3
        by_cases c4 : head = head2
        · subst c4
          go_wp2_with fail
          refine (nequal_to _ _ _ par par2 HX.out HY.out HL.out).mono ?_
          rintro e w3 ⟨⟨r, rfl, hr⟩, b3⟩
          have HR := Lib.hid hr
          have B3 := Lib.hid (B2.out.trans (b3.mono B2.out.size))
          clear hr b3
          go_wp2_with fail
          go_ret
          refine ⟨⟨r, by simp, ?_⟩, B3.out⟩
          rw [HR.out]
          constructor
          · rintro rfl; rfl
          · intro h; injection h
        · have d : (head == head2) = false := by simpa using c4
          have C := Lib.hid c4
          clear c4
          go_wp2_with fail
          go_ret
          exact ⟨⟨false, rfl, FA.out _ (fun h => C.out (by injection h))⟩, B2.out⟩
      · have d : (root == root2) = false := by simpa using c3
        have C := Lib.hid c3
        clear c3
        go_wp2_with fail
        go_ret
        exact ⟨⟨false, rfl, FA.out _ (fun h => C.out (by injection h))⟩, B2.out⟩
    · have d : (hi == hi2) = false := by simpa using c2
      have C := Lib.hid c2
      clear c2
      go_wp2_with fail
      go_ret
      exact ⟨⟨false, rfl, FA.out _ (fun h => C.out (by injection h))⟩, B2.out⟩
  · have d : (lo == lo2) = false := by simpa using c1
    have C := Lib.hid c1
    clear c1
    go_wp2_with fail
    go_ret
    exact ⟨⟨false, rfl, FA.out _ (fun h => C.out (by injection h))⟩, B2.out⟩
set_option maxHeartbeats 8000000 in
theorem eqf_to (w : World) (B : Nat) (v u : Value) (a b : List Sg) (hv : GS B w v a) (hu : GS B w u b) (hl : a.length ≤ 1000000) (hp : ∀ s ∈ a, s.par.length ≤ 1000000) :
    Calls Try.prog 33 #[v, u, .func (.func 34) #[] #[]] w fun e w' => (∃ r, e = .returned (.bool r) ∧ (r = true ↔ a = b)) ∧ Below w.heap.size w w' := by
  obtain ⟨p, cap, rfl⟩ := hv.form
  obtain ⟨p', cap', rfl⟩ := hu.form
  by_cases hne : a.length = b.length
  · have HV := Lib.hid hv
    have HU := Lib.hid hu
    have HP := Lib.hid hp
    obtain ⟨n, hn⟩ : ∃ n, n = a.length := ⟨_, rfl⟩
    rw [← hne, ← hn] at HU ⊢
    rw [← hn] at HV hl
    have HN := Lib.hid hn
    have HNE := Lib.hid hne
    have HL := Lib.hid hl
    have de : ((n : Int) != (n : Int)) = false := by simp
    clear hv hu hn hne hp hl
    go_enter Try.func33, Try.ntmps33
    go_wp2_with fail
    go_loopw [17] (fun i wr => ∃ k : Nat, k ≤ n ∧ i = .int .i64 k ∧ Hid (a.take k = b.take k) ∧ Hid (Below w.heap.size w wr)) (fun i _ => n - (intOf i).toNat)
    case atStart => exact ⟨0, Nat.zero_le _, rfl, Lib.hid (by simp), Lib.hid (Below.refl _ w)⟩
    case round =>
      obtain ⟨k, hk, rfl, E, B1⟩ := hrel
      by_cases hlt : k < n
      · obtain ⟨j1, j2, j3⟩ := next5 hlt HL.out
        have hka : k < a.length := by rw [← HN.out]; exact hlt
        have hkb : k < b.length := by rw [← HNE.out]; exact hka
        obtain ⟨ba, oa, xa, rfl, ra, ja⟩ := (HV.out.kb B1.out).at hka
        obtain ⟨bb, ob, xb, rfl, rb, jb⟩ := (HU.out.kb B1.out).at hkb
        have HNEXT := Lib.hid (List.take_add_one (l := a) (i := k))
        have HNEXB := Lib.hid (List.take_add_one (l := b) (i := k))
        rw [List.getElem?_eq_getElem hka] at HNEXT
        rw [List.getElem?_eq_getElem hkb] at HNEXB
        have HGA := Lib.hid (List.getElem?_eq_getElem hka)
        have HGB := Lib.hid (List.getElem?_eq_getElem hkb)
        have hpl := HP.out _ (List.getElem_mem hka)
        generalize a[k] = s at *
        generalize b[k] = t at *
        obtain ⟨pxa, cxa, rfl⟩ := ja.form
        obtain ⟨pxb, cxb, rfl⟩ := jb.form
        obtain ⟨na, hna⟩ : ∃ n, n = s.par.length := ⟨_, rfl⟩
        obtain ⟨nb, hnb⟩ : ∃ n, n = t.par.length := ⟨_, rfl⟩
        rw [← hna] at ra ja
        rw [← hnb] at rb jb
        obtain ⟨a1, a2, a3, a4, a5⟩ := sg_cells ra
        obtain ⟨b1, b2, b3, b4, b5⟩ := sg_cells rb
        have JA := Lib.hid ja
        have JB := Lib.hid jb
        have HPL := Lib.hid hpl
        have HLT := Lib.hid hlt
        have hgs := gsize
        have A1 := (Below.refl wr.heap.size wr).alloc (Nat.le_refl _) (.cells #[.int .i64 s.lo, .int .i64 s.hi, .slice pxa na cxa, .bool s.root, .bool s.head] 33)
        have HA2 := Lib.hid (A1.alloc (by simp) (.cells #[.int .i64 t.lo, .int .i64 t.hi, .slice pxb nb cxb, .bool t.root, .bool t.head] 33))
        have ca1 := (A1.cell (World.block_lt_of_cell? _ _ b1)).trans b1
        have ca2 := (A1.cell (World.block_lt_of_cell? _ _ b2)).trans b2
        have ca3 := (A1.cell (World.block_lt_of_cell? _ _ b3)).trans b3
        have ca4 := (A1.cell (World.block_lt_of_cell? _ _ b4)).trans b4
        have ca5 := (A1.cell (World.block_lt_of_cell? _ _ b5)).trans b5
        clear hna hnb ra rb ja jb hka hkb hk hlt hpl A1
        go_wp2_with fail
        refine (equal5_to _ _ _ s t (JA.out.kb HA2.out).1 (JB.out.kb HA2.out).1 HPL.out).mono ?_
        rintro e w5 ⟨⟨r, rfl, hr⟩, b5⟩
        have HRR := Lib.hid hr
        have B5 := Lib.hid ((B1.out.trans (HA2.out.mono B1.out.size)).trans (b5.mono (B1.out.trans (HA2.out.mono B1.out.size)).size))
        clear hr b5
        cases r with
        | false =>
          go_wp2_with fail
          go_ret
          refine ⟨⟨false, rfl, ⟨fun h => (by cases h), fun h => ?_⟩⟩, B5.out⟩
          have h1 := HGA.out
          rw [h, HGB.out] at h1
          exact HRR.out.2 (Option.some.inj h1).symm
        | true =>
          have C : Hid (s = t) := Lib.hid (HRR.out.1 rfl)
          go_wp2_with fail
          refine ⟨⟨k + 1, HLT.out, by first | rw [j1] | rfl, Lib.hid (by rw [HNEXT.out, HNEXB.out, E.out, C.out]), B5⟩, ?_⟩
          first | (rw [j1]; exact meas5 HLT.out) | exact meas5 HLT.out
      · obtain rfl : k = n := Nat.le_antisymm hk (Nat.le_of_not_lt hlt)
        go_wp2_with fail
        go_ret
        refine ⟨⟨true, rfl, ⟨fun _ => ?_, fun _ => rfl⟩⟩, B1.out⟩
        have h := E.out
        rw [HN.out, List.take_length, HNE.out, List.take_length] at h
        exact h
  · have de : ((a.length : Int) != (b.length : Int)) = true := by simp; omega
    have HNE := Lib.hid hne
    clear hne hv hu
    go_enter Try.func33, Try.ntmps33
    go_wp2_with fail
    go_ret
    exact ⟨⟨false, rfl, ⟨fun h => (by simp at h), fun h => absurd (congrArg List.length h) HNE.out⟩⟩, Below.refl _ w⟩
end Go.Proofs.Ytadglppplgeldaa
