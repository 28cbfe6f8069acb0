/- The reference's Both. Conditions: no more than some thousand spans; no end above the largest number. -/
import Derived.Test.YtpjfgkjhhmfhkaaSpnXm
import Derived.Test.YtpjfgkjhhmfhkaaSpnB
namespace Go.Proofs.Ytpjfgkjhhmfhkaa
open Go.RowKit

/-- The pairs so far. -/
def prsO (a b : List Sp) : List Sp := a.flatMap fun s => b.map fun t => ((max s.1 t.1, min s.2 t.2) : Sp)
def prsI (a b : List Sp) (s : Sp) (k : Nat) : List Sp := prsO a b ++ (b.take k).map fun t => ((max s.1 t.1, min s.2 t.2) : Sp)
theorem prsI_next {a b : List Sp} {s t : Sp} {k : Nat} (h : b[k]? = some t) : prsI a b s (k + 1) = prsI a b s k ++ [(max s.1 t.1, min s.2 t.2)] := by
  unfold prsI
  rw [List.take_add_one, h, List.map_append, List.append_assoc]
  rfl
theorem prsO_next {a b : List Sp} {s : Sp} {i : Nat} (h : a[i]? = some s) : prsO (a.take (i + 1)) b = prsI (a.take i) b s b.length := by
  unfold prsI prsO
  rw [List.take_add_one, h, List.flatMap_append, List.take_length]
  simp
theorem prsI_zero {a b : List Sp} {s : Sp} : prsI a b s 0 = prsO a b := by simp [prsI]
theorem prsO_top {a b : List Sp} (ha : Top topN a) : Top topN (prsO a b) := fun u hu => by
  obtain ⟨s, hs, hu⟩ := List.mem_flatMap.1 hu
  obtain ⟨t, _, rfl⟩ := List.mem_map.1 hu
  have := ha s hs
  simp only
  omega
theorem prsI_fit {a b : List Sp} {s : Sp} {i k : Nat} (hi : i < a.length) (hk : k ≤ b.length) (h : a.length * b.length ≤ 800000) : (prsI (a.take i) b s k).length ≤ 800000 := by
  unfold prsI prsO
  rw [List.length_append, pairs_len, List.length_map, List.length_take, List.length_take]
  have h2 : (i + 1) * b.length ≤ a.length * b.length := Nat.mul_le_mul_right _ hi
  rw [Nat.add_mul] at h2
  rw [Nat.min_eq_left (Nat.le_of_lt hi)]
  omega
set_option maxHeartbeats 8000000 in
theorem xboth_to (w : World) (v u : Value) (a b : List Sp) (hv : SSeen w v a) (hu : SSeen w u b) (hll : a.length * b.length ≤ 800000) (hla : a.length ≤ 800000) (hlb : b.length ≤ 800000) (hta : Top topN a) (htb : Top topN b) :
    Calls Try.prog 28 #[v, u] w fun e w' => ∃ v', e = .returned v' ∧ SOwn w' w.heap.size v' (bo a b) ∧ Below w.heap.size w w' := by
  have HA := Lib.hid (xmake_to w v a hv (by omega) hta)
  have HB := Lib.hid (fun W (h : SSeen W u b) => xmake_to W u b h (by omega) htb)
  have HU := Lib.hid hu
  have hll' : (mk a).length * (mk b).length ≤ 800000 := Nat.le_trans (Nat.mul_le_mul (mk_len a) (mk_len b)) hll
  have hma : (mk a).length ≤ 800000 := Nat.le_trans (mk_len a) hla
  have hmb : (mk b).length ≤ 800000 := Nat.le_trans (mk_len b) hlb
  have HBO : Hid (mk (prsO (mk a) (mk b)) = bo a b) := Lib.hid rfl
  have HTA := Lib.hid (prsO_top (b := mk b) (mk_top hta))
  obtain ⟨p, cap, rfl⟩ := hv.form
  obtain ⟨p', cap', rfl⟩ := hu.form
  generalize mk a = ma at *
  generalize mk b = mb at *
  generalize bo a b = r at *
  clear hv hu hla hlb hll hta htb
  have HLL := Lib.hid hll'
  clear hll'
  go_enter Try.func28, Try.ntmps28
  go_wp2_with fail
  refine HA.out.mono ?_
  rintro e w1 ⟨v1, rfl, o1, b1⟩
  have B1 := Lib.hid b1
  have O1 := Lib.hid o1
  clear o1 b1
  go_wp2_with fail
  refine (HB.out w1 (HU.out.kb B1.out)).mono ?_
  rintro e w2 ⟨v2, rfl, o2, b2⟩
  have S2 := Lib.hid o2.seen
  have S1 := Lib.hid (O1.out.kb b2).seen
  obtain ⟨p1, c1, rfl⟩ := O1.out.shape
  obtain ⟨p2, c2, rfl⟩ := o2.shape
  have B2 := Lib.hid (B1.out.trans (b2.mono B1.out.size))
  clear b2 o2 O1 HA HB HU
  obtain ⟨na, hna⟩ : ∃ n, n = ma.length := ⟨_, rfl⟩
  obtain ⟨nb, hnb⟩ : ∃ n, n = mb.length := ⟨_, rfl⟩
  have HNA := Lib.hid hna
  have HNB := Lib.hid hnb
  rw [← hna] at S1 hma ⊢
  rw [← hnb] at S2 hmb ⊢
  clear hna hnb
  go_wp2_with fail
  go_loopw [5, 6, 7] (fun z i _ wr => ∃ k : Nat, k ≤ na ∧ i = .int .i64 k ∧ Hid (SOwn wr w2.heap.size z (prsO (ma.take k) mb)) ∧ Hid (Below w2.heap.size w2 wr)) (fun _ i _ _ => na - (intOf i).toNat)
  case atStart => exact ⟨0, Nat.zero_le _, rfl, Lib.hid (SOwn.nil w2 _), Lib.hid (Below.refl _ w2)⟩
  case round =>
    obtain ⟨i, hi, rfl, O, B⟩ := hrel
    by_cases hlt : i < na
    · have hil : i < ma.length := by rw [← HNA.out]; exact hlt
      have hi' : (i : Int) < na := by omega
      obtain ⟨ba, oa, rfl, a1, a2⟩ := S1.out.at hil
      obtain ⟨s, hs⟩ : ∃ s, s = ma[i] := ⟨_, rfl⟩
      have hsk : ma[i]? = some s := by rw [hs]; exact List.getElem?_eq_getElem hil
      rw [← hs] at a1 a2
      have HNX := Lib.hid (prsO_next (b := mb) hsk)
      have HFT := Lib.hid (fun k (hk : k ≤ mb.length) => prsI_fit (s := s) hil hk HLL.out)
      have A1 := Lib.hid a1
      have A2 := Lib.hid a2
      have O' : Hid (SOwn wr w2.heap.size _ (prsI (ma.take i) mb s 0)) := Lib.hid (by rw [prsI_zero]; exact O.out)
      clear hs hsk a1 a2 O
      go_wp2_with fail
      go_loopw [5, 7] (fun z j wr => ∃ k : Nat, k ≤ nb ∧ j = .int .i64 k ∧ Hid (SOwn wr w2.heap.size z (prsI (ma.take i) mb s k)) ∧ Hid (Below w2.heap.size w2 wr)) (fun _ j _ => nb - (intOf j).toNat)
      case atStart => exact ⟨0, Nat.zero_le _, rfl, O', B⟩
      case round =>
        clear O' B
        obtain ⟨k, hk, rfl, O, B⟩ := hrel
        obtain ⟨pz, cz, rfl⟩ := O.out.shape
        by_cases hlt2 : k < nb
        · have hkl : k < mb.length := by rw [← HNB.out]; exact hlt2
          have hk' : (k : Int) < nb := by omega
          obtain ⟨bb, ob, rfl, e1, e2⟩ := S2.out.at hkl
          obtain ⟨t, ht⟩ : ∃ t, t = mb[k] := ⟨_, rfl⟩
          have htk : mb[k]? = some t := by rw [ht]; exact List.getElem?_eq_getElem hkl
          rw [← ht] at e1 e2
          have HNI := Lib.hid (prsI_next (a := ma.take i) (s := s) htk)
          have HLI := Lib.hid (HFT.out k (Nat.le_of_lt hkl))
          clear ht htk
          generalize prsI (ma.take i) mb s k = P at *
          obtain ⟨⟨x1, x2⟩, y1, y2⟩ := cells4 B.out A1.out A2.out e1 e2
          have E1 := Lib.hid e1
          have E2 := Lib.hid e2
          clear e1 e2
          go_wp2_with fail
          try simp only [List.append]
          refine wp_region_noPanic ?_
          refine wp_region_held_drew (S := (fun W => (W.cell? ⟨ba, oa + i * 2, none⟩ = some (.int .i64 s.1) ∧ W.cell? ⟨ba, oa + i * 2 + 1, none⟩ = some (.int .i64 s.2)) ∧ W.cell? ⟨bb, ob + k * 2, none⟩ = some (.int .i64 t.1) ∧ W.cell? ⟨bb, ob + k * 2 + 1, none⟩ = some (.int .i64 t.2))) (by kernel_rfl) ⟨⟨x1, x2⟩, y1, y2⟩ (fun hHeld => ?_)
          refine wpAnyH_take (i := 0) (v := ?_) (by simp only [List.getElem?_toArray, List.getElem?_cons_zero]; rfl) (by kernel_rfl) (by kernel_rfl) (by kernel_rfl) (fun _ _ _ h => h) (Or.inl ⟨by rfl, ?_⟩) (by assumption) ?_
          rotate_left
          · intro w hSw
            try dsimp only at hSw
            go_simp
            try with_reducible rfl
          try simp only [Act.put, List.setIfInBounds_toArray, List.set_cons_zero, List.set_cons_succ]
          refine wpAnyH_take (i := 1) (v := ?_) (by simp only [List.getElem?_toArray, List.getElem?_cons_succ, List.getElem?_cons_zero]; rfl) (by kernel_rfl) (by kernel_rfl) (by kernel_rfl) (fun _ _ _ h => h) (Or.inl ⟨by rfl, ?_⟩) (by assumption) ?_
          rotate_left
          · intro w hSw
            try dsimp only at hSw
            go_simp
            try with_reducible rfl
          try simp only [Act.put, List.setIfInBounds_toArray, List.set_cons_zero, List.set_cons_succ]
          refine wpAnyH_take (i := 2) (v := ?_) (by simp only [List.getElem?_toArray, List.getElem?_cons_succ, List.getElem?_cons_zero]; rfl) (by kernel_rfl) (by kernel_rfl) (by kernel_rfl) (fun _ _ _ h => h) (Or.inl ⟨by rfl, ?_⟩) (by assumption) ?_
          rotate_left
          · intro w hSw
            try dsimp only at hSw
            go_simp
            try with_reducible rfl
          try simp only [Act.put, List.setIfInBounds_toArray, List.set_cons_zero, List.set_cons_succ]
          refine wpAnyH_take (i := 3) (v := ?_) (by simp only [List.getElem?_toArray, List.getElem?_cons_succ, List.getElem?_cons_zero]; rfl) (by kernel_rfl) (by kernel_rfl) (by kernel_rfl) (fun _ _ _ h => h) (Or.inl ⟨by rfl, ?_⟩) (by assumption) ?_
          rotate_left
          · intro w hSw
            try dsimp only at hSw
            go_simp
            try with_reducible rfl
          try simp only [Act.put, List.setIfInBounds_toArray, List.set_cons_zero, List.set_cons_succ]
          refine wpAnyH_take (i := 4) (v := ?_) (by simp only [List.getElem?_toArray, List.getElem?_cons_succ, List.getElem?_cons_zero]; rfl) (by kernel_rfl) (by kernel_rfl) (by kernel_rfl) (fun _ _ _ h => h) (Or.inl ⟨by rfl, ?_⟩) (by assumption) ?_
          rotate_left
          · intro w hSw
            try dsimp only at hSw
            go_simp
            try with_reducible rfl
          try simp only [Act.put, List.setIfInBounds_toArray, List.set_cons_zero, List.set_cons_succ]
          refine wpAnyH_take (i := 5) (v := ?_) (by simp only [List.getElem?_toArray, List.getElem?_cons_succ, List.getElem?_cons_zero]; rfl) (by kernel_rfl) (by kernel_rfl) (by kernel_rfl) (fun _ _ _ h => h) (Or.inl ⟨by rfl, ?_⟩) (by assumption) ?_
          rotate_left
          · intro w hSw
            try dsimp only at hSw
            go_simp
            try with_reducible rfl
          try simp only [Act.put, List.setIfInBounds_toArray, List.set_cons_zero, List.set_cons_succ]
          refine wpAnyH_take (i := 6) (v := ?_) (by simp only [List.getElem?_toArray, List.getElem?_cons_succ, List.getElem?_cons_zero]; rfl) (by kernel_rfl) (by kernel_rfl) (by kernel_rfl) (fun _ _ _ h => h) (Or.inl ⟨by rfl, ?_⟩) (by assumption) ?_
          rotate_left
          · intro w hSw
            try dsimp only at hSw
            go_simp
            try with_reducible rfl
          try simp only [Act.put, List.setIfInBounds_toArray, List.set_cons_zero, List.set_cons_succ]
          refine wpAnyH_take (i := 7) (v := ?_) (by simp only [List.getElem?_toArray, List.getElem?_cons_succ, List.getElem?_cons_zero]; rfl) (by kernel_rfl) (by kernel_rfl) (by kernel_rfl) (fun _ _ _ h => h) (Or.inl ⟨by rfl, ?_⟩) (by assumption) ?_
          rotate_left
          · intro w hSw
            try dsimp only at hSw
            go_simp
            try with_reducible rfl
          try simp only [Act.put, List.setIfInBounds_toArray, List.set_cons_zero, List.set_cons_succ]
          refine wpAnyH_take (i := 8) (v := ?_) (by simp only [List.getElem?_toArray, List.getElem?_cons_succ, List.getElem?_cons_zero]; rfl) (by kernel_rfl) (by kernel_rfl) (by kernel_rfl) (fun _ _ _ h => h) (Or.inl ⟨by rfl, ?_⟩) (by assumption) ?_
          rotate_left
          · intro w hSw
            try dsimp only at hSw
            go_simp
            try with_reducible rfl
          try simp only [Act.put, List.setIfInBounds_toArray, List.set_cons_zero, List.set_cons_succ]
          refine wpAnyH_take (i := 9) (v := ?_) (by simp only [List.getElem?_toArray, List.getElem?_cons_succ, List.getElem?_cons_zero]; rfl) (by kernel_rfl) (by kernel_rfl) (by kernel_rfl) (fun _ _ _ h => h) (Or.inl ⟨by rfl, ?_⟩) (by assumption) ?_
          rotate_left
          · intro w hSw
            try dsimp only at hSw
            go_simp
            try with_reducible rfl
          try simp only [Act.put, List.setIfInBounds_toArray, List.set_cons_zero, List.set_cons_succ]
          refine wpAnyH_take (i := 10) (v := ?_) (by simp only [List.getElem?_toArray, List.getElem?_cons_succ, List.getElem?_cons_zero]; rfl) (by kernel_rfl) (by kernel_rfl) (by kernel_rfl) (fun _ _ _ h => h) (Or.inl ⟨by rfl, ?_⟩) (by assumption) ?_
          rotate_left
          · intro w hSw
            try dsimp only at hSw
            go_simp
            try with_reducible rfl
          try simp only [Act.put, List.setIfInBounds_toArray, List.set_cons_zero, List.set_cons_succ]
          refine wpAnyH_take (i := 11) (v := (.int .i64 (max s.1 t.1))) (by simp only [List.getElem?_toArray, List.getElem?_cons_succ, List.getElem?_cons_zero]; rfl) (by kernel_rfl) (by kernel_rfl) (by kernel_rfl) (fun _ _ _ h => h) (Or.inl ⟨by rfl, ?_⟩) (by assumption) ?_
          · intro w hSw
            try dsimp only at hSw
            go_simp
          try simp only [Act.put, List.setIfInBounds_toArray, List.set_cons_zero, List.set_cons_succ]
          refine wpAnyH_take (i := 12) (v := ?_) (by simp only [List.getElem?_toArray, List.getElem?_cons_succ, List.getElem?_cons_zero]; rfl) (by kernel_rfl) (by kernel_rfl) (by kernel_rfl) (fun _ _ _ h => h) (Or.inl ⟨by rfl, ?_⟩) (by assumption) ?_
          rotate_left
          · intro w hSw
            try dsimp only at hSw
            go_simp
            try with_reducible rfl
          try simp only [Act.put, List.setIfInBounds_toArray, List.set_cons_zero, List.set_cons_succ]
          refine wpAnyH_take (i := 13) (v := ?_) (by simp only [List.getElem?_toArray, List.getElem?_cons_succ, List.getElem?_cons_zero]; rfl) (by kernel_rfl) (by kernel_rfl) (by kernel_rfl) (fun _ _ _ h => h) (Or.inl ⟨by rfl, ?_⟩) (by assumption) ?_
          rotate_left
          · intro w hSw
            try dsimp only at hSw
            go_simp
            try with_reducible rfl
          try simp only [Act.put, List.setIfInBounds_toArray, List.set_cons_zero, List.set_cons_succ]
          refine wpAnyH_take (i := 14) (v := ?_) (by simp only [List.getElem?_toArray, List.getElem?_cons_succ, List.getElem?_cons_zero]; rfl) (by kernel_rfl) (by kernel_rfl) (by kernel_rfl) (fun _ _ _ h => h) (Or.inl ⟨by rfl, ?_⟩) (by assumption) ?_
          rotate_left
          · intro w hSw
            try dsimp only at hSw
            go_simp
            try with_reducible rfl
          try simp only [Act.put, List.setIfInBounds_toArray, List.set_cons_zero, List.set_cons_succ]
          refine wpAnyH_take (i := 15) (v := ?_) (by simp only [List.getElem?_toArray, List.getElem?_cons_succ, List.getElem?_cons_zero]; rfl) (by kernel_rfl) (by kernel_rfl) (by kernel_rfl) (fun _ _ _ h => h) (Or.inl ⟨by rfl, ?_⟩) (by assumption) ?_
          rotate_left
          · intro w hSw
            try dsimp only at hSw
            go_simp
            try with_reducible rfl
          try simp only [Act.put, List.setIfInBounds_toArray, List.set_cons_zero, List.set_cons_succ]
          refine wpAnyH_take (i := 16) (v := ?_) (by simp only [List.getElem?_toArray, List.getElem?_cons_succ, List.getElem?_cons_zero]; rfl) (by kernel_rfl) (by kernel_rfl) (by kernel_rfl) (fun _ _ _ h => h) (Or.inl ⟨by rfl, ?_⟩) (by assumption) ?_
          rotate_left
          · intro w hSw
            try dsimp only at hSw
            go_simp
            try with_reducible rfl
          try simp only [Act.put, List.setIfInBounds_toArray, List.set_cons_zero, List.set_cons_succ]
          refine wpAnyH_take (i := 17) (v := ?_) (by simp only [List.getElem?_toArray, List.getElem?_cons_succ, List.getElem?_cons_zero]; rfl) (by kernel_rfl) (by kernel_rfl) (by kernel_rfl) (fun _ _ _ h => h) (Or.inl ⟨by rfl, ?_⟩) (by assumption) ?_
          rotate_left
          · intro w hSw
            try dsimp only at hSw
            go_simp
            try with_reducible rfl
          try simp only [Act.put, List.setIfInBounds_toArray, List.set_cons_zero, List.set_cons_succ]
          refine wpAnyH_take (i := 18) (v := ?_) (by simp only [List.getElem?_toArray, List.getElem?_cons_succ, List.getElem?_cons_zero]; rfl) (by kernel_rfl) (by kernel_rfl) (by kernel_rfl) (fun _ _ _ h => h) (Or.inl ⟨by rfl, ?_⟩) (by assumption) ?_
          rotate_left
          · intro w hSw
            try dsimp only at hSw
            go_simp
            try with_reducible rfl
          try simp only [Act.put, List.setIfInBounds_toArray, List.set_cons_zero, List.set_cons_succ]
          refine wpAnyH_take (i := 19) (v := ?_) (by simp only [List.getElem?_toArray, List.getElem?_cons_succ, List.getElem?_cons_zero]; rfl) (by kernel_rfl) (by kernel_rfl) (by kernel_rfl) (fun _ _ _ h => h) (Or.inl ⟨by rfl, ?_⟩) (by assumption) ?_
          rotate_left
          · intro w hSw
            try dsimp only at hSw
            go_simp
            try with_reducible rfl
          try simp only [Act.put, List.setIfInBounds_toArray, List.set_cons_zero, List.set_cons_succ]
          refine wpAnyH_take (i := 20) (v := ?_) (by simp only [List.getElem?_toArray, List.getElem?_cons_succ, List.getElem?_cons_zero]; rfl) (by kernel_rfl) (by kernel_rfl) (by kernel_rfl) (fun _ _ _ h => h) (Or.inl ⟨by rfl, ?_⟩) (by assumption) ?_
          rotate_left
          · intro w hSw
            try dsimp only at hSw
            go_simp
            try with_reducible rfl
          try simp only [Act.put, List.setIfInBounds_toArray, List.set_cons_zero, List.set_cons_succ]
          refine wpAnyH_take (i := 21) (v := ?_) (by simp only [List.getElem?_toArray, List.getElem?_cons_succ, List.getElem?_cons_zero]; rfl) (by kernel_rfl) (by kernel_rfl) (by kernel_rfl) (fun _ _ _ h => h) (Or.inl ⟨by rfl, ?_⟩) (by assumption) ?_
          rotate_left
          · intro w hSw
            try dsimp only at hSw
            go_simp
            try with_reducible rfl
          try simp only [Act.put, List.setIfInBounds_toArray, List.set_cons_zero, List.set_cons_succ]
          refine wpAnyH_take (i := 22) (v := (.int .i64 (min s.2 t.2))) (by simp only [List.getElem?_toArray, List.getElem?_cons_succ, List.getElem?_cons_zero]; rfl) (by kernel_rfl) (by kernel_rfl) (by kernel_rfl) (fun _ _ _ h => h) (Or.inl ⟨by rfl, ?_⟩) (by assumption) ?_
          · intro w hSw
            try dsimp only at hSw
            go_simp
          try simp only [Act.put, List.setIfInBounds_toArray, List.set_cons_zero, List.set_cons_succ]
          refine wpAnyH_take (i := 23) (v := (.agg #[.int .i64 (max s.1 t.1), .int .i64 (min s.2 t.2)])) (by simp only [List.getElem?_toArray, List.getElem?_cons_succ, List.getElem?_cons_zero]; rfl) (by kernel_rfl) (by kernel_rfl) (by kernel_rfl) (fun _ _ _ h => h) (Or.inl ⟨by rfl, ?_⟩) (by assumption) ?_
          · intro w hSw
            try dsimp only at hSw
            go_simp
          try simp only [Act.put, List.setIfInBounds_toArray, List.set_cons_zero, List.set_cons_succ]
          refine wpAnyH_ready (rs := [24]) (by kernel_rfl) (by simp) ?_
          refine AllReadyH.cons (by simp only [List.getElem?_toArray, List.getElem?_cons_succ, List.getElem?_cons_zero]; rfl) (fun K hK => ?_) AllReadyH.nil
          go_simp
          go_wp2_with fail
          refine hK.out _ _ (cells4 ((Below.refl _ wr).alloc (Nat.le_refl _) _).drew x1 x2 y1 y2) (fun hHeld => ?_)
          clear hK K
          try simp only [Act.put, List.setIfInBounds_toArray, List.set_cons_zero, List.set_cons_succ]
          refine wpAnyH_ready (rs := [25]) (by kernel_rfl) (by simp) ?_
          refine AllReadyH.cons (by simp only [List.getElem?_toArray, List.getElem?_cons_succ, List.getElem?_cons_zero]; rfl) (fun K hK => ?_) AllReadyH.nil
          refine step_push_span (w := wr.drew) (by rfl) (.tmp 24) (.tmp 48) (by rfl) (max s.1 t.1, min s.2 t.2) w2.heap.size _ P (by rfl) (O.out.drn 1) wr.heap.size rfl (by rfl) (by have := HLI.out; omega) B.out.size ?_
          intro p3 c3 w3 own3 _ _ b3
          have O3 := Lib.hid own3
          have B3 := Lib.hid (B.out.drew.trans b3)
          clear own3 b3
          refine hK.out _ _ (cells4 B3.out A1.out A2.out E1.out E2.out) (fun hHeld => ?_)
          clear hK K
          try simp only [Act.put, List.setIfInBounds_toArray, List.set_cons_zero, List.set_cons_succ]
          refine wpAnyH_take (i := 26) (v := ?_) (by simp only [List.getElem?_toArray, List.getElem?_cons_succ, List.getElem?_cons_zero]; rfl) (by kernel_rfl) (by kernel_rfl) (by kernel_rfl) (fun _ _ _ h => h) (Or.inl ⟨by rfl, ?_⟩) (by assumption) ?_
          rotate_left
          · intro w hSw
            try dsimp only at hSw
            go_simp
            try with_reducible rfl
          try simp only [Act.put, List.setIfInBounds_toArray, List.set_cons_zero, List.set_cons_succ]
          refine wpAnyH_done (by kernel_rfl) ?_ _
          refine NoPanic.normal ?_
          go_wp2_with fail
          exact ⟨⟨k + 1, by omega, by go_num, Lib.hid (by rw [HNI.out]; exact O3.out), B3⟩, by simp [intOf]; omega⟩
        · obtain rfl : k = nb := by omega
          have O4 : Hid (SOwn wr w2.heap.size (.slice pz (prsI (ma.take i) mb s k).length cz) (prsO (ma.take (i + 1)) mb)) := Lib.hid (by rw [HNX.out, ← HNB.out]; exact O.out)
          go_wp2_with fail
          exact ⟨⟨i + 1, by omega, by go_num, O4, B⟩, by simp [intOf]; omega⟩
    · obtain rfl : i = na := by omega
      have HE : prsO (ma.take i) mb = prsO ma mb := by rw [List.take_of_length_le (Nat.le_of_eq HNA.out.symm)]
      rw [HE] at O
      obtain ⟨pz, cz, rfl⟩ := O.out.shape
      have hlp : (prsO ma mb).length ≤ 900000 := by have h : (prsO ma mb).length = ma.length * mb.length := pairs_len ma mb; rw [h]; have := HLL.out; omega
      have HMK := Lib.hid (xmake_to wr _ _ O.out.seen hlp HTA.out)
      rw [HBO.out] at HMK
      clear HE hlp
      go_wp2_with fail
      refine HMK.out.mono ?_
      rintro e w4 ⟨v4, rfl, o4, b4⟩
      have BB := Lib.hid (B2.out.trans (B.out.mono B2.out.size))
      have O4 := Lib.hid (o4.mono BB.out.size)
      have B4 := Lib.hid (BB.out.trans (b4.mono BB.out.size))
      clear o4 b4
      go_wp2_with fail
      go_ret
      exact ⟨_, rfl, O4.out, B4.out⟩
end Go.Proofs.Ytpjfgkjhhmfhkaa
