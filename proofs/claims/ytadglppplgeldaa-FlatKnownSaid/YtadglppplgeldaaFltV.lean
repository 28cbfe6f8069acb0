/- What the statements make of raw numbers: the parents of an ID. Conditions: numbers as Go has them. -/
import Derived.Test.YtadglppplgeldaaFltU
namespace Go.Proofs.Ytadglppplgeldaa
open Go.RowKit
set_option maxRecDepth 20000

/-- One of the IDs, picked. -/
def pat (ids : List Int) (q : Int) : Int := (ids[(q % ids.length).toNat]?).getD 0
def lastI (ids : List Int) : Int := (ids[ids.length - 1]?).getD 0
/-- The parents that a raw number gives. -/
def prn (n : Int) (ids : List Int) : List Int :=
  if ids = [] then [] else
  if n % 12 = 0 then [] else
  if n % 12 = 1 ∨ n % 12 = 2 then [pat ids (n.tdiv 12)] else
  if n % 12 = 3 ∨ n % 12 = 4 then (if pat ids (n.tdiv 12) = pat ids (n.tdiv 144) then [pat ids (n.tdiv 12)] else [pat ids (n.tdiv 12), pat ids (n.tdiv 144)]) else
  if n % 12 = 5 then (if pat ids (n.tdiv 12) = lastI ids then [pat ids (n.tdiv 12)] else [pat ids (n.tdiv 12), lastI ids]) else
  [lastI ids]
theorem pat_mem {ids : List Int} (h : ids ≠ []) (q : Int) : pat ids q ∈ ids ∧ 0 ≤ q % (ids.length : Int) ∧ q % (ids.length : Int) < ids.length ∧ ids[(q % ids.length).toNat]? = some (pat ids q) := by
  have h0 : 0 < ids.length := List.length_pos_iff.2 h
  have h1 : 0 ≤ q % (ids.length : Int) := Int.emod_nonneg _ (by omega)
  have h2 : q % (ids.length : Int) < ids.length := Int.emod_lt_of_pos _ (by omega)
  have h3 : (q % ids.length).toNat < ids.length := by omega
  have h4 : ids[(q % ids.length).toNat]? = some (pat ids q) := by unfold pat; rw [List.getElem?_eq_getElem h3]; rfl
  exact ⟨List.mem_of_getElem? h4, h1, h2, h4⟩
theorem last_mem {ids : List Int} (h : ids ≠ []) : lastI ids ∈ ids ∧ ids[ids.length - 1]? = some (lastI ids) := by
  have h0 : 0 < ids.length := List.length_pos_iff.2 h
  have h4 : ids[ids.length - 1]? = some (lastI ids) := by unfold lastI; rw [List.getElem?_eq_getElem (by omega)]; rfl
  exact ⟨List.mem_of_getElem? h4, h4⟩
theorem prn_mem {n : Int} {ids : List Int} : ∀ x ∈ prn n ids, x ∈ ids := by
  intro x hx
  unfold prn at hx
  by_cases h : ids = []
  · rw [if_pos h] at hx; cases hx
  · have hp := fun q => (pat_mem h q).1
    have hl := (last_mem h).1
    rw [if_neg h] at hx
    repeat' split at hx
    all_goals simp at hx
    all_goals first
      | (subst hx; first | exact hp _ | exact hl)
      | (rcases hx with rfl | rfl <;> first | exact hp _ | exact hl)
theorem prn_len {n : Int} {ids : List Int} : (prn n ids).length ≤ 2 := by
  unfold prn
  repeat' split
  all_goals simp
theorem prn_nodup {n : Int} {ids : List Int} : ∀ (j : Nat) (p : Int), (prn n ids)[j]? = some p → p ∉ (prn n ids).take j := by
  intro j p hj
  have h2 := prn_len (n := n) (ids := ids)
  unfold prn at hj ⊢
  repeat' split at hj
  all_goals (repeat' split)
  all_goals first
    | contradiction
    | skip
  all_goals (match j, hj with | 0, _ => simp | 1, hj => (simp at hj ⊢; try omega) | j + 2, hj => (simp at hj))
theorem cell_of_nseen {w : World} {p : Option Addr} {n cap : Nat} {l : List Int} (h : NSeen w (.slice p n cap) l) {k : Nat} {x : Int} (hk : l[k]? = some x) : ∃ a, p = some a ∧ w.cell? (a.add k) = some (.int .i64 x) := by
  obtain ⟨p', cap', e, _, hs⟩ := h
  injection e with e1 e2 e3
  subst e1
  exact hs k x hk
theorem jown_one {w : World} {b : Nat} {x : Int} {B : Nat} (h : w.heap[b]? = some (.cells #[.int .i64 x] 3 (0, 0))) (hB : B ≤ b) : JOwn w B (.slice (some ⟨b, 0, none⟩) 1 1) [x] :=
  ⟨rfl, .inr ⟨b, 1, _, rfl, hB, h, Nat.le_refl _, by decide, rfl, rfl⟩⟩
theorem jown_two {w : World} {b : Nat} {x y : Int} {B : Nat} (h : w.heap[b]? = some (.cells #[.int .i64 x, .int .i64 y] 3 (0, 0))) (hB : B ≤ b) : JOwn w B (.slice (some ⟨b, 0, none⟩) 2 2) [x, y] :=
  ⟨rfl, .inr ⟨b, 2, _, rfl, hB, h, Nat.le_refl _, by decide, rfl, rfl⟩⟩
set_option maxHeartbeats 8000000 in
theorem prn_to (w : World) (n : Int) (hn : -9223372036854775808 ≤ n ∧ n < 9223372036854775808) (v : Value) (ids : List Int) (hs : NSeen w v ids) (hl : ids.length ≤ 2000000) :
    Calls Try.prog 37 #[.int .i64 n, v] w fun e w' => ∃ v', e = .returned v' ∧ JOwn w' w.heap.size v' (prn n ids) ∧ Below w.heap.size w w' := by
  obtain ⟨p, cap, rfl⟩ := hs.form
  by_cases h0 : ids = []
  · subst h0
    clear hs hl
    go_enter Try.func37, Try.ntmps37
    go_wp2_with fail
    go_ret
    exact ⟨_, rfl, World.ownsRow_nil _ _ _ _, Below.refl _ _⟩
  · obtain ⟨nl, hnl⟩ : ∃ nl, nl = ids.length := ⟨_, rfl⟩
    have h1 : 0 < nl := by rw [hnl]; exact List.length_pos_iff.2 h0
    have HL := Lib.hid hl
    rw [← hnl] at hl ⊢
    have dz : ((nl : Int) == 0) = false := by simp; omega
    have hw1 : wrap64 ((nl : Int) - 1) = ((nl - 1 : Nat) : Int) := by unfold wrap64; omega
    have hw2 : ((nl - 1 : Nat) : Int) < (nl : Int) := by omega
    have hw3 : (0 : Int) ≤ ((nl - 1 : Nat) : Int) := Int.natCast_nonneg _
    obtain ⟨a, rfl, hla⟩ := cell_of_nseen hs (last_mem h0).2
    rw [← hnl] at hla
    obtain ⟨m1, hm1⟩ : ∃ m1, m1 = nl - 1 := ⟨_, rfl⟩
    rw [← hm1] at hla hw1 hw2 hw3
    obtain ⟨la, hlae⟩ : ∃ la, la = lastI ids := ⟨_, rfl⟩
    rw [← hlae] at hla
    have HLA := Lib.hid hlae
    have H12 := Lib.hid (fun W => pick_any W n 12 (by decide) (by decide))
    have HPT : Hid (∀ q : Int, ∃ k : Nat, (∀ W : World, Calls Try.prog 16 #[.int .i64 q, .int .i64 (nl : Int)] W fun e w' => e = .returned (.int .i64 (k : Int)) ∧ W = w') ∧ (k : Int) < nl ∧ w.cell? (a.add k) = some (.int .i64 (pat ids q))) := Lib.hid (fun q => by
      have h := pat_mem h0 q
      rw [← hnl] at h
      refine ⟨(q % (nl : Int)).toNat, fun W => pick_to W q (nl : Int) _ (by omega) (by omega) (by omega), by omega, ?_⟩
      obtain ⟨a', e, h2⟩ := cell_of_nseen hs h.2.2.2
      injection e with e
      subst e
      exact h2)
    have H0 := Lib.hid h0
    have HNL := Lib.hid hnl
    obtain ⟨r, hr⟩ : ∃ r, r = n % 12 := ⟨_, rfl⟩
    rw [← hr] at H12
    have HR := Lib.hid hr
    have hrb : 0 ≤ r ∧ r < 12 := by omega
    clear hs hl hnl hm1 h0 h1 hlae hr
    go_enter Try.func37, Try.ntmps37
    go_wp2_with fail
    refine (H12.out w).mono ?_
    rintro e w' ⟨rfl, rfl⟩
    rcases (show r = 0 ∨ r = 1 ∨ r = 2 ∨ r = 3 ∨ r = 4 ∨ r = 5 ∨ (6 ≤ r) by omega) with hrc | hrc | hrc | hrc | hrc | hrc | hrc
    · have d0 : (r == 0) = true := by rw [hrc]; rfl
      have d1 : (r == 1) = false := by rw [hrc]; rfl
      have d2 : (r == 2) = false := by rw [hrc]; rfl
      have d3 : (r == 3) = false := by rw [hrc]; rfl
      have d4 : (r == 4) = false := by rw [hrc]; rfl
      have d5 : (r == 5) = false := by rw [hrc]; rfl
      have HRC := Lib.hid hrc
      clear hrc hrb
      have HU : Hid (prn n ids = []) := Lib.hid (by unfold prn; rw [if_neg H0.out, ← HR.out, HRC.out]; simp)
      go_wp2_with fail
      go_ret
      rw [HU.out]
      exact ⟨_, rfl, World.ownsRow_nil _ _ _ _, Below.refl _ _⟩
    · have d0 : (r == 0) = false := by rw [hrc]; rfl
      have d1 : (r == 1) = true := by rw [hrc]; rfl
      have d2 : (r == 2) = false := by rw [hrc]; rfl
      have d3 : (r == 3) = false := by rw [hrc]; rfl
      have d4 : (r == 4) = false := by rw [hrc]; rfl
      have d5 : (r == 5) = false := by rw [hrc]; rfl
      have HRC := Lib.hid hrc
      clear hrc hrb
      have HU : Hid (prn n ids = [pat ids (n.tdiv 12)]) := Lib.hid (by unfold prn; rw [if_neg H0.out, ← HR.out, HRC.out]; simp)
      obtain ⟨k1, hk1, hl1, hc1⟩ := HPT.out (n.tdiv 12)
      have HP1 := Lib.hid hk1
      have hn1 : (0 : Int) ≤ k1 := Int.natCast_nonneg _
      clear hk1
      go_wp2_with fail
      refine (HP1.out w).mono ?_
      rintro e w' ⟨rfl, rfl⟩
      go_wp2_with fail
      go_ret
      rw [HU.out]
      exact ⟨_, rfl, jown_one (heap_alloc_last _ _) (Nat.le_refl _), (Below.refl _ _).alloc (Nat.le_refl _) _⟩
    · have d0 : (r == 0) = false := by rw [hrc]; rfl
      have d1 : (r == 1) = false := by rw [hrc]; rfl
      have d2 : (r == 2) = true := by rw [hrc]; rfl
      have d3 : (r == 3) = false := by rw [hrc]; rfl
      have d4 : (r == 4) = false := by rw [hrc]; rfl
      have d5 : (r == 5) = false := by rw [hrc]; rfl
      have HRC := Lib.hid hrc
      clear hrc hrb
      have HU : Hid (prn n ids = [pat ids (n.tdiv 12)]) := Lib.hid (by unfold prn; rw [if_neg H0.out, ← HR.out, HRC.out]; simp)
      obtain ⟨k1, hk1, hl1, hc1⟩ := HPT.out (n.tdiv 12)
      have HP1 := Lib.hid hk1
      have hn1 : (0 : Int) ≤ k1 := Int.natCast_nonneg _
      clear hk1
      go_wp2_with fail
      refine (HP1.out w).mono ?_
      rintro e w' ⟨rfl, rfl⟩
      go_wp2_with fail
      go_ret
      rw [HU.out]
      exact ⟨_, rfl, jown_one (heap_alloc_last _ _) (Nat.le_refl _), (Below.refl _ _).alloc (Nat.le_refl _) _⟩
    · have d0 : (r == 0) = false := by rw [hrc]; rfl
      have d1 : (r == 1) = false := by rw [hrc]; rfl
      have d2 : (r == 2) = false := by rw [hrc]; rfl
      have d3 : (r == 3) = true := by rw [hrc]; rfl
      have d4 : (r == 4) = false := by rw [hrc]; rfl
      have d5 : (r == 5) = false := by rw [hrc]; rfl
      have HRC := Lib.hid hrc
      clear hrc hrb
      have HU : Hid (prn n ids = if pat ids (n.tdiv 12) = pat ids (n.tdiv 144) then [pat ids (n.tdiv 12)] else [pat ids (n.tdiv 12), pat ids (n.tdiv 144)]) := Lib.hid (by unfold prn; rw [if_neg H0.out, ← HR.out, HRC.out]; simp)
      obtain ⟨k1, hk1, hl1, hc1⟩ := HPT.out (n.tdiv 12)
      have HP1 := Lib.hid hk1
      have hn1 : (0 : Int) ≤ k1 := Int.natCast_nonneg _
      clear hk1
      obtain ⟨k2, hk2, hl2, hc2⟩ := HPT.out (n.tdiv 144)
      have HP2 := Lib.hid hk2
      have hn2 : (0 : Int) ≤ k2 := Int.natCast_nonneg _
      clear hk2
      generalize pat ids (n.tdiv 12) = x at *
      generalize pat ids (n.tdiv 144) = y at *
      by_cases hxy : x = y
      · have dd : (x == y) = true := by simpa using hxy
        rw [if_pos hxy] at HU
        clear hxy
        go_wp2_with fail
        refine (HP1.out w).mono ?_
        rintro e w' ⟨rfl, rfl⟩
        go_wp2_with fail
        refine (HP2.out w).mono ?_
        rintro e w' ⟨rfl, rfl⟩
        go_wp2_with fail
        go_ret
        rw [HU.out]
        exact ⟨_, rfl, jown_one (heap_alloc_last _ _) (Nat.le_refl _), (Below.refl _ _).alloc (Nat.le_refl _) _⟩
      · have dd : (x == y) = false := by simpa using hxy
        rw [if_neg hxy] at HU
        clear hxy
        go_wp2_with fail
        refine (HP1.out w).mono ?_
        rintro e w' ⟨rfl, rfl⟩
        go_wp2_with fail
        refine (HP2.out w).mono ?_
        rintro e w' ⟨rfl, rfl⟩
        go_wp2_with fail
        go_ret
        rw [HU.out]
        exact ⟨_, rfl, jown_two (heap_alloc_last _ _) (Nat.le_refl _), (Below.refl _ _).alloc (Nat.le_refl _) _⟩
    · have d0 : (r == 0) = false := by rw [hrc]; rfl
      have d1 : (r == 1) = false := by rw [hrc]; rfl
      have d2 : (r == 2) = false := by rw [hrc]; rfl
      have d3 : (r == 3) = false := by rw [hrc]; rfl
      have d4 : (r == 4) = true := by rw [hrc]; rfl
      have d5 : (r == 5) = false := by rw [hrc]; rfl
      have HRC := Lib.hid hrc
      clear hrc hrb
      have HU : Hid (prn n ids = if pat ids (n.tdiv 12) = pat ids (n.tdiv 144) then [pat ids (n.tdiv 12)] else [pat ids (n.tdiv 12), pat ids (n.tdiv 144)]) := Lib.hid (by unfold prn; rw [if_neg H0.out, ← HR.out, HRC.out]; simp)
      obtain ⟨k1, hk1, hl1, hc1⟩ := HPT.out (n.tdiv 12)
      have HP1 := Lib.hid hk1
      have hn1 : (0 : Int) ≤ k1 := Int.natCast_nonneg _
      clear hk1
      obtain ⟨k2, hk2, hl2, hc2⟩ := HPT.out (n.tdiv 144)
      have HP2 := Lib.hid hk2
      have hn2 : (0 : Int) ≤ k2 := Int.natCast_nonneg _
      clear hk2
      generalize pat ids (n.tdiv 12) = x at *
      generalize pat ids (n.tdiv 144) = y at *
      by_cases hxy : x = y
      · have dd : (x == y) = true := by simpa using hxy
        rw [if_pos hxy] at HU
        clear hxy
        go_wp2_with fail
        refine (HP1.out w).mono ?_
        rintro e w' ⟨rfl, rfl⟩
        go_wp2_with fail
        refine (HP2.out w).mono ?_
        rintro e w' ⟨rfl, rfl⟩
        go_wp2_with fail
        go_ret
        rw [HU.out]
        exact ⟨_, rfl, jown_one (heap_alloc_last _ _) (Nat.le_refl _), (Below.refl _ _).alloc (Nat.le_refl _) _⟩
      · have dd : (x == y) = false := by simpa using hxy
        rw [if_neg hxy] at HU
        clear hxy
        go_wp2_with fail
        refine (HP1.out w).mono ?_
        rintro e w' ⟨rfl, rfl⟩
        go_wp2_with fail
        refine (HP2.out w).mono ?_
        rintro e w' ⟨rfl, rfl⟩
        go_wp2_with fail
        go_ret
        rw [HU.out]
        exact ⟨_, rfl, jown_two (heap_alloc_last _ _) (Nat.le_refl _), (Below.refl _ _).alloc (Nat.le_refl _) _⟩
    · have d0 : (r == 0) = false := by rw [hrc]; rfl
      have d1 : (r == 1) = false := by rw [hrc]; rfl
      have d2 : (r == 2) = false := by rw [hrc]; rfl
      have d3 : (r == 3) = false := by rw [hrc]; rfl
      have d4 : (r == 4) = false := by rw [hrc]; rfl
      have d5 : (r == 5) = true := by rw [hrc]; rfl
      have HRC := Lib.hid hrc
      clear hrc hrb
      have HU : Hid (prn n ids = if pat ids (n.tdiv 12) = la then [pat ids (n.tdiv 12)] else [pat ids (n.tdiv 12), la]) := Lib.hid (by unfold prn; rw [if_neg H0.out, ← HR.out, HRC.out]; simp; rw [HLA.out])
      obtain ⟨k1, hk1, hl1, hc1⟩ := HPT.out (n.tdiv 12)
      have HP1 := Lib.hid hk1
      have hn1 : (0 : Int) ≤ k1 := Int.natCast_nonneg _
      clear hk1
      generalize pat ids (n.tdiv 12) = x at *
      by_cases hxy : x = la
      · have dd : (x == la) = true := by simpa using hxy
        rw [if_pos hxy] at HU
        clear hxy
        go_wp2_with fail
        refine (HP1.out w).mono ?_
        rintro e w' ⟨rfl, rfl⟩
        go_wp2_with fail
        go_ret
        rw [HU.out]
        exact ⟨_, rfl, jown_one (heap_alloc_last _ _) (Nat.le_refl _), (Below.refl _ _).alloc (Nat.le_refl _) _⟩
      · have dd : (x == la) = false := by simpa using hxy
        rw [if_neg hxy] at HU
        clear hxy
        go_wp2_with fail
        refine (HP1.out w).mono ?_
        rintro e w' ⟨rfl, rfl⟩
        go_wp2_with fail
        go_ret
        rw [HU.out]
        exact ⟨_, rfl, jown_two (heap_alloc_last _ _) (Nat.le_refl _), (Below.refl _ _).alloc (Nat.le_refl _) _⟩
    · have d0 : (r == 0) = false := by simp; omega
      have d1 : (r == 1) = false := by simp; omega
      have d2 : (r == 2) = false := by simp; omega
      have d3 : (r == 3) = false := by simp; omega
      have d4 : (r == 4) = false := by simp; omega
      have d5 : (r == 5) = false := by simp; omega
      have HU : Hid (prn n ids = [la]) := Lib.hid (by unfold prn; rw [if_neg H0.out, ← HR.out, if_neg (by omega), if_neg (by omega), if_neg (by omega), if_neg (by omega), ← HLA.out])
      clear hrc hrb
      go_wp2_with fail
      go_ret
      rw [HU.out]
      exact ⟨_, rfl, jown_one (heap_alloc_last _ _) (Nat.le_refl _), (Below.refl _ _).alloc (Nat.le_refl _) _⟩
end Go.Proofs.Ytadglppplgeldaa
