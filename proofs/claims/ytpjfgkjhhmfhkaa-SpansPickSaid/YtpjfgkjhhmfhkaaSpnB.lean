/- Both, Minus. Conditions: no more than some hundred thousand spans; no end above the largest number. -/
import Derived.Test.YtpjfgkjhhmfhkaaSpnW
namespace Go.Proofs.Ytpjfgkjhhmfhkaa
open Go.RowKit

/-- What is found so far, and what is left of both. -/
structure BoI (a b A x y : List Sp) : Prop where
  nx : Nrm x
  ny : Nrm y
  nA : Nrm A
  has : ∀ z, (Has a z ∧ Has b z) ↔ Has A z ∨ (Has x z ∧ Has y z)
  low : ∀ z, Has A z → (∀ u, Has x u → z + 1 < u) ∨ (∀ u, Has y u → z + 1 < u)
  len : A.length + x.length + y.length ≤ a.length + b.length
theorem BoI.start {a b : List Sp} (ha : Nrm a) (hb : Nrm b) : BoI a b [] a b := ⟨ha, hb, trivial, fun z => by rw [has_nil]; simp, fun z h => (has_nil.1 h).elim, by simp⟩
theorem BoI.swap {a b A x y : List Sp} (H : BoI a b A x y) : BoI b a A y x :=
  ⟨H.ny, H.nx, H.nA, fun z => by rw [and_comm, H.has, and_comm (a := Has x z)], fun z h => (H.low z h).symm, by have := H.len; omega⟩
/-- The first span of x ends first. -/
theorem BoI.left {a b A x y : List Sp} {s t : Sp} (H : BoI a b A (s :: x) (t :: y)) (c : s.2 ≤ t.2) : BoI a b (if max s.1 t.1 ≤ min s.2 t.2 then A ++ [(max s.1 t.1, min s.2 t.2)] else A) x (t :: y) := by
  have hs := H.nx.mem s List.mem_cons_self
  have ht := H.ny.mem t List.mem_cons_self
  have key : ∀ z, (Has (s :: x) z ∧ Has (t :: y) z) ↔ (max s.1 t.1 ≤ z ∧ z ≤ min s.2 t.2) ∨ (Has x z ∧ Has (t :: y) z) := fun z => by
    rw [has_cons, has_cons]
    constructor
    · rintro ⟨h1 | h1, h2⟩
      · rcases h2 with h2 | h2
        · exact .inl (by omega)
        · have := H.ny.gap h2; omega
      · exact .inr ⟨h1, h2⟩
    · rintro (h1 | h1)
      · exact ⟨.inl (by omega), .inl (by omega)⟩
      · exact ⟨.inr h1.1, h1.2⟩
  by_cases hc : max s.1 t.1 ≤ min s.2 t.2
  · rw [if_pos hc]
    have hone : Nrm [((max s.1 t.1, min s.2 t.2) : Sp)] := nrm_one (by simp only; omega) hc
    refine ⟨H.nx.tail, H.ny, H.nA.app hone fun u hu v hv => ?_, fun z => ?_, fun z hz => ?_, by have := H.len; simp at this ⊢; omega⟩
    · obtain rfl : v = (max s.1 t.1, min s.2 t.2) := by simpa using hv
      have h1 := ((key (max s.1 t.1)).2 (.inl ⟨Int.le_refl _, hc⟩))
      rcases H.low u.2 (H.nA.hi hu) with h | h
      · exact h _ h1.1
      · exact h _ h1.2
    · rw [H.has, key, has_app, has_one, or_assoc]
      refine or_congr Iff.rfl (or_congr ⟨fun h => ⟨by omega, h⟩, fun h => h.2⟩ Iff.rfl)
    · rcases has_app.1 hz with hz | hz
      · rcases H.low z hz with h | h
        · exact .inl fun u hu => h u (has_cons.2 (.inr hu))
        · exact .inr h
      · rw [has_one] at hz
        simp only at hz
        exact .inl fun u hu => by have := H.nx.gap hu; omega
  · rw [if_neg hc]
    refine ⟨H.nx.tail, H.ny, H.nA, fun z => ?_, fun z hz => ?_, by have := H.len; simp at this ⊢; omega⟩
    · rw [H.has, key]
      refine or_congr Iff.rfl ⟨fun h => ?_, .inr⟩
      rcases h with h | h
      · omega
      · exact h
    · rcases H.low z hz with h | h
      · exact .inl fun u hu => h u (has_cons.2 (.inr hu))
      · exact .inr h
theorem BoI.right {a b A x y : List Sp} {s t : Sp} (H : BoI a b A (s :: x) (t :: y)) (c : t.2 ≤ s.2) : BoI a b (if max s.1 t.1 ≤ min s.2 t.2 then A ++ [(max s.1 t.1, min s.2 t.2)] else A) (s :: x) y := by
  have h := H.swap.left c
  rw [Int.max_comm t.1, Int.min_comm t.2] at h
  exact h.swap
theorem boI_done {a b A x y : List Sp} (H : BoI (mk a) (mk b) A x y) (c : x = [] ∨ y = []) : A = bo a b := by
  refine uniq H.nA (bo_nrm a b) fun z => ?_
  rw [bo_has, ← mk_has a, ← mk_has b, H.has]
  rcases c with rfl | rfl
  · rw [has_nil]; simp
  · rw [has_nil]; simp
/-- A slice's length. -/
def slen : Value → Nat
  | .slice _ n _ => n
  | _ => 0
/-- All but the first. -/
theorem SSeen.tail {w : World} {b o c : Nat} {s : Sp} {x : List Sp} (h : SSeen w (.slice (some ⟨b, o, none⟩) (x.length + 1) c) (s :: x)) : SSeen w (.slice (if c = 1 then some ⟨b, o, none⟩ else some ⟨b, o + 2, none⟩) x.length (c - 1)) x := by
  obtain ⟨p, c', e, hl, hs⟩ := h
  injection e with e1 e2 e3
  subst e1 e3
  simp only [List.length_cons] at hl
  refine ⟨_, _, rfl, by omega, fun j u hj => ?_⟩
  have hjl := (List.getElem?_eq_some_iff.1 hj).1
  obtain ⟨b', o', e, h1, h2⟩ := hs (j + 1) u (by simpa using hj)
  injection e with e
  injection e with e1 e2
  subst e1 e2
  rw [if_neg (by omega)]
  refine ⟨b, o + 2, rfl, ?_, ?_⟩
  · rw [show o + 2 + j * 2 = o + (j + 1) * 2 from by omega]; exact h1
  · rw [show o + 2 + j * 2 + 1 = o + (j + 1) * 2 + 1 from by omega]; exact h2
theorem cells4 {w W : World} {x y u z : Addr} {a b c d : Value} (h : Below w.heap.size w W) (h1 : w.cell? x = some a) (h2 : w.cell? y = some b) (h3 : w.cell? u = some c) (h4 : w.cell? z = some d) : (W.cell? x = some a ∧ W.cell? y = some b) ∧ W.cell? u = some c ∧ W.cell? z = some d :=
  ⟨⟨(h.cell (World.block_lt_of_cell? _ _ h1)).trans h1, (h.cell (World.block_lt_of_cell? _ _ h2)).trans h2⟩, (h.cell (World.block_lt_of_cell? _ _ h3)).trans h3, (h.cell (World.block_lt_of_cell? _ _ h4)).trans h4⟩
set_option maxHeartbeats 8000000 in
theorem both_to (w : World) (v u : Value) (a b : List Sp) (hv : SSeen w v a) (hu : SSeen w u b) (hla : a.length ≤ 1000000) (hlb : b.length ≤ 1000000) (hll : a.length + b.length ≤ 1000000) (hta : Top topN a) (htb : Top topN b) :
    Calls Try.prog 27 #[v, u] w fun e w' => ∃ v', e = .returned v' ∧ SOwn w' w.heap.size v' (bo a b) ∧ Below w.heap.size w w' := by
  have HA := Lib.hid (make_to w v a hv hla hta)
  have HB := Lib.hid (fun W (h : SSeen W u b) => make_to W u b h hlb htb)
  have HU := Lib.hid hu
  have HLL : Hid ((mk a).length + (mk b).length ≤ 1000000) := Lib.hid (by have := mk_len a; have := mk_len b; omega)
  have HE := Lib.hid (fun A x y (H : BoI (mk a) (mk b) A x y) (c : x = [] ∨ y = []) => boI_done H c)
  have HST := Lib.hid (BoI.start (mk_nrm a) (mk_nrm b))
  obtain ⟨p, cap, rfl⟩ := hv.form
  obtain ⟨p', cap', rfl⟩ := hu.form
  generalize mk a = ma at *
  generalize mk b = mb at *
  generalize bo a b = r at *
  clear hv hu hla hlb hll hta htb
  go_enter Try.func27, Try.ntmps27
  go_wp2_with fail
  refine HA.out.mono ?_
  rintro e w1 ⟨v1, rfl, o1, b1⟩
  have B1 := Lib.hid b1
  have O1 := Lib.hid o1
  clear o1 b1
  go_wp2_with fail
  refine (HB.out w1 (HU.out.kb B1.out)).mono ?_
  rintro e w2 ⟨v2, rfl, o2, b2⟩
  have S2 := Lib.hid o2.seen
  have S1 := Lib.hid (O1.out.kb b2).seen
  have B2 := Lib.hid (B1.out.trans (b2.mono B1.out.size))
  clear b2 o2 O1 HA HB HU
  go_wp2_with fail
  go_loopw [0, 1, 5] (fun va vb vz wr => ∃ (x y A : List Sp), Hid (BoI ma mb A x y) ∧ Hid (SSeen w2 va x) ∧ Hid (SSeen w2 vb y) ∧ Hid (SOwn wr w2.heap.size vz A) ∧ Hid (Below w2.heap.size w2 wr)) (fun va vb _ _ => slen va + slen vb)
  case atStart => exact ⟨ma, mb, [], HST, S1, S2, Lib.hid (SOwn.nil w2 _), Lib.hid (Below.refl _ w2)⟩
  case round =>
    obtain ⟨x, y, A, I, SA, SB, O, B⟩ := hrel
    obtain ⟨pz, cz, rfl⟩ := O.out.shape
    obtain ⟨pa, ca, rfl⟩ := SA.out.form
    obtain ⟨pb, cb, rfl⟩ := SB.out.form
    cases x with
    | nil =>
      have HF := Lib.hid (HE.out _ _ _ I.out (.inl rfl))
      have d1 : decide (((0 : Nat) : Int) > 0) = false := by decide
      go_wp2_with fail
      go_ret
      rw [← HF.out]
      exact ⟨_, rfl, O.out.mono B2.out.size, B2.out.trans (B.out.mono B2.out.size)⟩
    | cons s x =>
      cases y with
      | nil =>
        have HF := Lib.hid (HE.out _ _ _ I.out (.inr rfl))
        go_wp2_with fail
        go_ret
        rw [← HF.out]
        exact ⟨_, rfl, O.out.mono B2.out.size, B2.out.trans (B.out.mono B2.out.size)⟩
      | cons t y =>
        obtain ⟨ba, oa, rfl, a1, a2⟩ := SA.out.at (j := 0) (by simp)
        obtain ⟨bb, ob, rfl, e1, e2⟩ := SB.out.at (j := 0) (by simp)
        rw [show (s :: x)[0] = s from rfl, Nat.zero_mul, Nat.add_zero] at a1 a2
        rw [show (t :: y)[0] = t from rfl, Nat.zero_mul, Nat.add_zero] at e1 e2
        have HLA : Hid (A.length ≤ 1000000) := Lib.hid (by have := I.out.len; have := HLL.out; omega)
        obtain ⟨nx, hnx⟩ : ∃ nx, nx = x.length := ⟨_, rfl⟩
        obtain ⟨ny, hny⟩ : ∃ ny, ny = y.length := ⟨_, rfl⟩
        have TA := Lib.hid (SSeen.tail SA.out)
        have TB := Lib.hid (SSeen.tail SB.out)
        have hca : nx + 1 ≤ ca := by obtain ⟨_, _, e, h, _⟩ := SA.out; injection e with _ _ e; subst e; simp at h; omega
        have hcb : ny + 1 ≤ cb := by obtain ⟨_, _, e, h, _⟩ := SB.out; injection e with _ _ e; subst e; simp at h; omega
        rw [List.length_cons] at SA SB ⊢
        rw [List.length_cons] at ⊢
        rw [← hnx] at SA TA ⊢
        rw [← hny] at SB TB ⊢
        have HNX := Lib.hid hnx
        have HNY := Lib.hid hny
        clear hnx hny
        have A1 := Lib.hid a1
        have A2 := Lib.hid a2
        have E1 := Lib.hid e1
        have E2 := Lib.hid e2
        obtain ⟨⟨a1, a2⟩, e1, e2⟩ := cells4 B.out A1.out A2.out E1.out E2.out
        have hp1 : (0 : Int) < (nx : Int) + 1 := by omega
        have hp2 : (0 : Int) < (ny : Int) + 1 := by omega
        go_wp2_with fail
        try simp only [List.append]
        refine wp_region_noPanic ?_
        refine wp_region_held_drew (S := (fun W => (W.cell? ⟨ba, oa, none⟩ = some (.int .i64 s.1) ∧ W.cell? ⟨ba, oa + 1, none⟩ = some (.int .i64 s.2)) ∧ W.cell? ⟨bb, ob, none⟩ = some (.int .i64 t.1) ∧ W.cell? ⟨bb, ob + 1, none⟩ = some (.int .i64 t.2))) (by kernel_rfl) ⟨⟨a1, a2⟩, e1, e2⟩ (fun hHeld => ?_)
        refine wpAnyH_take (i := 0) (v := ?_) (by simp only [List.getElem?_toArray, List.getElem?_cons_zero]; rfl) (by kernel_rfl) (by kernel_rfl) (by kernel_rfl) (fun _ _ _ h => h) (Or.inl ⟨by rfl, ?_⟩) (by assumption) ?_
        rotate_left
        · intro w hSw
          try dsimp only at hSw
          go_simp
          try with_reducible rfl
        try simp only [Act.put, List.setIfInBounds_toArray, List.set_cons_zero, List.set_cons_succ]
        refine wpAnyH_take (i := 1) (v := ?_) (by simp only [List.getElem?_toArray, List.getElem?_cons_succ, List.getElem?_cons_zero]; rfl) (by kernel_rfl) (by kernel_rfl) (by kernel_rfl) (fun _ _ _ h => h) (Or.inl ⟨by rfl, ?_⟩) (by assumption) ?_
        rotate_left
        · intro w hSw
          try dsimp only at hSw
          go_simp
          try with_reducible rfl
        try simp only [Act.put, List.setIfInBounds_toArray, List.set_cons_zero, List.set_cons_succ]
        refine wpAnyH_take (i := 2) (v := ?_) (by simp only [List.getElem?_toArray, List.getElem?_cons_succ, List.getElem?_cons_zero]; rfl) (by kernel_rfl) (by kernel_rfl) (by kernel_rfl) (fun _ _ _ h => h) (Or.inl ⟨by rfl, ?_⟩) (by assumption) ?_
        rotate_left
        · intro w hSw
          try dsimp only at hSw
          go_simp
          try with_reducible rfl
        try simp only [Act.put, List.setIfInBounds_toArray, List.set_cons_zero, List.set_cons_succ]
        refine wpAnyH_take (i := 3) (v := ?_) (by simp only [List.getElem?_toArray, List.getElem?_cons_succ, List.getElem?_cons_zero]; rfl) (by kernel_rfl) (by kernel_rfl) (by kernel_rfl) (fun _ _ _ h => h) (Or.inl ⟨by rfl, ?_⟩) (by assumption) ?_
        rotate_left
        · intro w hSw
          try dsimp only at hSw
          go_simp
          try with_reducible rfl
        try simp only [Act.put, List.setIfInBounds_toArray, List.set_cons_zero, List.set_cons_succ]
        refine wpAnyH_take (i := 4) (v := ?_) (by simp only [List.getElem?_toArray, List.getElem?_cons_succ, List.getElem?_cons_zero]; rfl) (by kernel_rfl) (by kernel_rfl) (by kernel_rfl) (fun _ _ _ h => h) (Or.inl ⟨by rfl, ?_⟩) (by assumption) ?_
        rotate_left
        · intro w hSw
          try dsimp only at hSw
          go_simp
          try with_reducible rfl
        try simp only [Act.put, List.setIfInBounds_toArray, List.set_cons_zero, List.set_cons_succ]
        refine wpAnyH_take (i := 5) (v := ?_) (by simp only [List.getElem?_toArray, List.getElem?_cons_succ, List.getElem?_cons_zero]; rfl) (by kernel_rfl) (by kernel_rfl) (by kernel_rfl) (fun _ _ _ h => h) (Or.inl ⟨by rfl, ?_⟩) (by assumption) ?_
        rotate_left
        · intro w hSw
          try dsimp only at hSw
          go_simp
          try with_reducible rfl
        try simp only [Act.put, List.setIfInBounds_toArray, List.set_cons_zero, List.set_cons_succ]
        refine wpAnyH_take (i := 6) (v := ?_) (by simp only [List.getElem?_toArray, List.getElem?_cons_succ, List.getElem?_cons_zero]; rfl) (by kernel_rfl) (by kernel_rfl) (by kernel_rfl) (fun _ _ _ h => h) (Or.inl ⟨by rfl, ?_⟩) (by assumption) ?_
        rotate_left
        · intro w hSw
          try dsimp only at hSw
          go_simp
          try with_reducible rfl
        try simp only [Act.put, List.setIfInBounds_toArray, List.set_cons_zero, List.set_cons_succ]
        refine wpAnyH_take (i := 7) (v := ?_) (by simp only [List.getElem?_toArray, List.getElem?_cons_succ, List.getElem?_cons_zero]; rfl) (by kernel_rfl) (by kernel_rfl) (by kernel_rfl) (fun _ _ _ h => h) (Or.inl ⟨by rfl, ?_⟩) (by assumption) ?_
        rotate_left
        · intro w hSw
          try dsimp only at hSw
          go_simp
          try with_reducible rfl
        try simp only [Act.put, List.setIfInBounds_toArray, List.set_cons_zero, List.set_cons_succ]
        refine wpAnyH_take (i := 8) (v := (.int .i64 (max s.1 t.1))) (by simp only [List.getElem?_toArray, List.getElem?_cons_succ, List.getElem?_cons_zero]; rfl) (by kernel_rfl) (by kernel_rfl) (by kernel_rfl) (fun _ _ _ h => h) (Or.inl ⟨by rfl, ?_⟩) (by assumption) ?_
        · intro w hSw
          try dsimp only at hSw
          go_simp
        try simp only [Act.put, List.setIfInBounds_toArray, List.set_cons_zero, List.set_cons_succ]
        refine wpAnyH_take (i := 9) (v := ?_) (by simp only [List.getElem?_toArray, List.getElem?_cons_succ, List.getElem?_cons_zero]; rfl) (by kernel_rfl) (by kernel_rfl) (by kernel_rfl) (fun _ _ _ h => h) (Or.inl ⟨by rfl, ?_⟩) (by assumption) ?_
        rotate_left
        · intro w hSw
          try dsimp only at hSw
          go_simp
          try with_reducible rfl
        try simp only [Act.put, List.setIfInBounds_toArray, List.set_cons_zero, List.set_cons_succ]
        refine wpAnyH_take (i := 10) (v := ?_) (by simp only [List.getElem?_toArray, List.getElem?_cons_succ, List.getElem?_cons_zero]; rfl) (by kernel_rfl) (by kernel_rfl) (by kernel_rfl) (fun _ _ _ h => h) (Or.inl ⟨by rfl, ?_⟩) (by assumption) ?_
        rotate_left
        · intro w hSw
          try dsimp only at hSw
          go_simp
          try with_reducible rfl
        try simp only [Act.put, List.setIfInBounds_toArray, List.set_cons_zero, List.set_cons_succ]
        refine wpAnyH_take (i := 11) (v := ?_) (by simp only [List.getElem?_toArray, List.getElem?_cons_succ, List.getElem?_cons_zero]; rfl) (by kernel_rfl) (by kernel_rfl) (by kernel_rfl) (fun _ _ _ h => h) (Or.inl ⟨by rfl, ?_⟩) (by assumption) ?_
        rotate_left
        · intro w hSw
          try dsimp only at hSw
          go_simp
          try with_reducible rfl
        try simp only [Act.put, List.setIfInBounds_toArray, List.set_cons_zero, List.set_cons_succ]
        refine wpAnyH_take (i := 12) (v := ?_) (by simp only [List.getElem?_toArray, List.getElem?_cons_succ, List.getElem?_cons_zero]; rfl) (by kernel_rfl) (by kernel_rfl) (by kernel_rfl) (fun _ _ _ h => h) (Or.inl ⟨by rfl, ?_⟩) (by assumption) ?_
        rotate_left
        · intro w hSw
          try dsimp only at hSw
          go_simp
          try with_reducible rfl
        try simp only [Act.put, List.setIfInBounds_toArray, List.set_cons_zero, List.set_cons_succ]
        refine wpAnyH_take (i := 13) (v := ?_) (by simp only [List.getElem?_toArray, List.getElem?_cons_succ, List.getElem?_cons_zero]; rfl) (by kernel_rfl) (by kernel_rfl) (by kernel_rfl) (fun _ _ _ h => h) (Or.inl ⟨by rfl, ?_⟩) (by assumption) ?_
        rotate_left
        · intro w hSw
          try dsimp only at hSw
          go_simp
          try with_reducible rfl
        try simp only [Act.put, List.setIfInBounds_toArray, List.set_cons_zero, List.set_cons_succ]
        refine wpAnyH_take (i := 14) (v := ?_) (by simp only [List.getElem?_toArray, List.getElem?_cons_succ, List.getElem?_cons_zero]; rfl) (by kernel_rfl) (by kernel_rfl) (by kernel_rfl) (fun _ _ _ h => h) (Or.inl ⟨by rfl, ?_⟩) (by assumption) ?_
        rotate_left
        · intro w hSw
          try dsimp only at hSw
          go_simp
          try with_reducible rfl
        try simp only [Act.put, List.setIfInBounds_toArray, List.set_cons_zero, List.set_cons_succ]
        refine wpAnyH_take (i := 15) (v := ?_) (by simp only [List.getElem?_toArray, List.getElem?_cons_succ, List.getElem?_cons_zero]; rfl) (by kernel_rfl) (by kernel_rfl) (by kernel_rfl) (fun _ _ _ h => h) (Or.inl ⟨by rfl, ?_⟩) (by assumption) ?_
        rotate_left
        · intro w hSw
          try dsimp only at hSw
          go_simp
          try with_reducible rfl
        try simp only [Act.put, List.setIfInBounds_toArray, List.set_cons_zero, List.set_cons_succ]
        refine wpAnyH_take (i := 16) (v := ?_) (by simp only [List.getElem?_toArray, List.getElem?_cons_succ, List.getElem?_cons_zero]; rfl) (by kernel_rfl) (by kernel_rfl) (by kernel_rfl) (fun _ _ _ h => h) (Or.inl ⟨by rfl, ?_⟩) (by assumption) ?_
        rotate_left
        · intro w hSw
          try dsimp only at hSw
          go_simp
          try with_reducible rfl
        try simp only [Act.put, List.setIfInBounds_toArray, List.set_cons_zero, List.set_cons_succ]
        refine wpAnyH_take (i := 17) (v := (.int .i64 (min s.2 t.2))) (by simp only [List.getElem?_toArray, List.getElem?_cons_succ, List.getElem?_cons_zero]; rfl) (by kernel_rfl) (by kernel_rfl) (by kernel_rfl) (fun _ _ _ h => h) (Or.inl ⟨by rfl, ?_⟩) (by assumption) ?_
        · intro w hSw
          try dsimp only at hSw
          go_simp
        try simp only [Act.put, List.setIfInBounds_toArray, List.set_cons_zero, List.set_cons_succ]
        refine wpAnyH_take (i := 18) (v := (.agg #[.int .i64 (max s.1 t.1), .int .i64 (min s.2 t.2)])) (by simp only [List.getElem?_toArray, List.getElem?_cons_succ, List.getElem?_cons_zero]; rfl) (by kernel_rfl) (by kernel_rfl) (by kernel_rfl) (fun _ _ _ h => h) (Or.inl ⟨by rfl, ?_⟩) (by assumption) ?_
        · intro w hSw
          try dsimp only at hSw
          go_simp
        try simp only [Act.put, List.setIfInBounds_toArray, List.set_cons_zero, List.set_cons_succ]
        refine wpAnyH_ready (rs := [19]) (by kernel_rfl) (by simp) ?_
        refine AllReadyH.cons (by simp only [List.getElem?_toArray, List.getElem?_cons_succ, List.getElem?_cons_zero]; rfl) (fun K hK => ?_) AllReadyH.nil
        go_simp
        go_wp2_with fail
        refine hK.out _ _ (cells4 ((Below.refl _ wr).alloc (Nat.le_refl _) _).drew a1 a2 e1 e2) (fun hHeld => ?_)
        clear hK K
        try simp only [Act.put, List.setIfInBounds_toArray, List.set_cons_zero, List.set_cons_succ]
        refine wpAnyH_ready (rs := [20]) (by kernel_rfl) (by simp) ?_
        refine AllReadyH.cons (by simp only [List.getElem?_toArray, List.getElem?_cons_succ, List.getElem?_cons_zero]; rfl) (fun K hK => ?_) AllReadyH.nil
        go_simp
        go_wp2_with fail
        refine hK.out _ _ (cells4 ((Below.refl _ wr).alloc (Nat.le_refl _) _).drew a1 a2 e1 e2) (fun hHeld => ?_)
        clear hK K
        try simp only [Act.put, List.setIfInBounds_toArray, List.set_cons_zero, List.set_cons_succ]
        refine wpAnyH_done (by kernel_rfl) ?_ _
        refine NoPanic.normal ?_
        have BW : Hid (Below w2.heap.size w2 (wr.alloc (.cells #[.int .i64 (max s.1 t.1), .int .i64 (min s.2 t.2)] 23)).drew) := Lib.hid (B.out.alloc B.out.size _).drew
        have OW : Hid (SOwn (wr.alloc (.cells #[.int .i64 (max s.1 t.1), .int .i64 (min s.2 t.2)] 23)).drew w2.heap.size (.slice pz A.length cz) A) := Lib.hid (SOwn.drn (O.out.alloc _) 1)
        have n0 : (wr.alloc (.cells #[.int .i64 (max s.1 t.1), .int .i64 (min s.2 t.2)] 23)).drew.heap[wr.heap.size]? = some (.cells #[.int .i64 (max s.1 t.1), .int .i64 (min s.2 t.2)] 23 (0, 0)) := heap_alloc_last wr _
        clear a1 a2 e1 e2
        obtain ⟨B0, hB0⟩ : ∃ B0, B0 = wr.heap.size := ⟨_, rfl⟩
        rw [← hB0] at n0 ⊢
        clear hB0
        generalize (wr.alloc (.cells #[.int .i64 (max s.1 t.1), .int .i64 (min s.2 t.2)] 23)).drew = W1 at *
        have HL1 := Lib.hid (fun c => I.out.left (s := s) (t := t) c)
        have HL2 := Lib.hid (fun c => I.out.right (s := s) (t := t) c)
        obtain ⟨lo, hlo⟩ : ∃ lo, lo = max s.1 t.1 := ⟨_, rfl⟩
        obtain ⟨hi, hhi⟩ : ∃ hi, hi = min s.2 t.2 := ⟨_, rfl⟩
        rw [← hlo, ← hhi] at n0 HL1 HL2 ⊢
        obtain ⟨z1, z2⟩ := sp_cells n0
        clear n0 hlo hhi
        by_cases c : lo ≤ hi
        · rw [if_pos c] at HL1 HL2
          have dc : decide (lo ≤ hi) = true := by simpa using c
          clear c
          go_wp2_with (first
            | (at_builtin; refine push_span (by rfl) (.tmp 43) (.tmp 45) (by rfl) (lo, hi) w2.heap.size _ A (by rfl) OW.out W1.heap.size rfl (by rfl) HLA.out BW.out.size ?_; intro p3 c3 w3 own3 on3 at3 b3; have O3 := Lib.hid own3; have B3 := Lib.hid (BW.out.trans b3); clear own3 on3 at3 b3 z1 z2))
          obtain ⟨⟨a1, a2⟩, e1, e2⟩ := cells4 B3.out A1.out A2.out E1.out E2.out
          by_cases c2 : s.2 < t.2
          · have d2 : decide (s.2 < t.2) = true := by simpa using c2
            have C2 : Hid (s.2 ≤ t.2) := Lib.hid (by omega)
            clear c2
            go_quiet (fail)
            go_wp2_with fail
            exact ⟨⟨x, t :: y, _, Lib.hid (HL1.out C2.out), TA, SB, Lib.hid (O3.out.drn _), Lib.hid (below_drn10 B3.out _)⟩, by simp [slen]⟩
          · have d2 : decide (s.2 < t.2) = false := by simpa using c2
            have C2 : Hid (t.2 ≤ s.2) := Lib.hid (by omega)
            clear c2
            go_quiet (fail)
            go_wp2_with fail
            exact ⟨⟨s :: x, y, _, Lib.hid (HL2.out C2.out), SA, TB, Lib.hid (O3.out.drn _), Lib.hid (below_drn10 B3.out _)⟩, by simp [slen]⟩
        · rw [if_neg c] at HL1 HL2
          have dc : decide (lo ≤ hi) = false := by simpa using c
          clear c
          go_wp2_with fail
          obtain ⟨⟨a1, a2⟩, e1, e2⟩ := cells4 BW.out A1.out A2.out E1.out E2.out
          by_cases c2 : s.2 < t.2
          · have d2 : decide (s.2 < t.2) = true := by simpa using c2
            have C2 : Hid (s.2 ≤ t.2) := Lib.hid (by omega)
            clear c2
            go_quiet (fail)
            go_wp2_with fail
            exact ⟨⟨x, t :: y, _, Lib.hid (HL1.out C2.out), TA, SB, Lib.hid (OW.out.drn _), Lib.hid (below_drn10 BW.out _)⟩, by simp [slen]⟩
          · have d2 : decide (s.2 < t.2) = false := by simpa using c2
            have C2 : Hid (t.2 ≤ s.2) := Lib.hid (by omega)
            clear c2
            go_quiet (fail)
            go_wp2_with fail
            exact ⟨⟨s :: x, y, _, Lib.hid (HL2.out C2.out), SA, TB, Lib.hid (OW.out.drn _), Lib.hid (below_drn10 BW.out _)⟩, by simp [slen]⟩
set_option maxHeartbeats 2000000 in
theorem minus_to (w : World) (v u : Value) (a b : List Sp) (hv : SSeen w v a) (hu : SSeen w u b) (hll : a.length + b.length ≤ 900000) (hta : Top topN a) (htb : Top topN b) :
    Calls Try.prog 9 #[v, u] w fun e w' => ∃ v', e = .returned v' ∧ SOwn w' w.heap.size v' (mi topN a b) ∧ Below w.heap.size w w' := by
  have HB := Lib.hid (without_to w u b hu (by omega) htb)
  have hwl : (wo topN 0 (mk b)).length ≤ b.length + 1 := by have := wo_len (M := topN) (mk b) 0; have := mk_len b; omega
  have hwt : Top topN (wo topN 0 (mk b)) := top_of (wo_nrm _ _ (by omega) (mk_nrm b) (mk_top htb) (fun s hs => ((mk_nrm b).mem s hs).1)) (fun x hx => ((wo_has _ _ (by omega) (mk_nrm b) (mk_top htb) (fun s hs => ((mk_nrm b).mem s hs).1) x).1 hx).2.1)
  have HA := Lib.hid (fun W u' (h1 : SSeen W v a) (h2 : SSeen W u' (wo topN 0 (mk b))) => both_to W v u' a (wo topN 0 (mk b)) h1 h2 (by omega) (by omega) (by omega) hta hwt)
  have HV := Lib.hid hv
  unfold mi
  generalize wo topN 0 (mk b) = r at *
  clear hv hu hll hta htb hwl hwt
  go_enter Try.func9, Try.ntmps9
  go_wp2_with fail
  refine HB.out.mono ?_
  rintro e w1 ⟨v1, rfl, o1, b1⟩
  have B1 := Lib.hid b1
  have O1 := Lib.hid o1
  clear o1 b1
  go_wp2_with fail
  refine (HA.out w1 v1 (HV.out.kb B1.out) O1.out.seen).mono ?_
  rintro e w2 ⟨v2, rfl, o2, b2⟩
  have O2 := Lib.hid (o2.mono B1.out.size)
  have B2 := Lib.hid (B1.out.trans (b2.mono B1.out.size))
  clear o2 b2
  go_wp2_with fail
  go_ret
  exact ⟨_, rfl, O2.out, B2.out⟩
end Go.Proofs.Ytpjfgkjhhmfhkaa
