/- Package flat: slices.Index, Contains, Clone of numbers; ids, allows, Right. Conditions: no more than a million of each. -/
import Derived.Test.YtadglppplgeldaaFltQ
import Derived.Test.YtadglppplgeldaaGenRow
namespace Go.Proofs.Ytadglppplgeldaa
open Go.RowKit
set_option maxRecDepth 20000

theorem cell_ob5 {w : World} {p : Nat} {cs : Array Value} {T : TypeId} (h : w.heap[p]? = some (.cells cs T (0, 0))) (j : Nat) {u : Value} (hu : cs[j]? = some u) : w.cell? ⟨p, j, none⟩ = some u := by
  rw [cell_of_row w p j cs T (0, 0) h]; exact hu
theorem meas5 {n k : Nat} (h : k < n) : n - (intOf (.int .i64 ((k + 1 : Nat) : Int))).toNat < n - (intOf (.int .i64 (k : Int))).toNat := by simp only [intOf]; omega
theorem next5 {k n : Nat} (h : k < n) (hn : n ≤ 1000000) : wrap64 ((k : Int) + 1) = ((k + 1 : Nat) : Int) ∧ (0 : Int) ≤ k ∧ (k : Int) < n := by
  refine ⟨?_, by omega, by omega⟩
  unfold wrap64; omega
set_option maxHeartbeats 4000000 in
theorem nidx_to (w : World) (v : Value) (l : List Int) (x : Int) (hs : NSeen w v l) (hl : l.length ≤ 1000000) :
    Calls Try.prog 48 #[v, .int .i64 x] w fun e w' => (∃ r : Int, e = .returned (.int .i64 r) ∧ (0 ≤ r ↔ x ∈ l)) ∧ Below w.heap.size w w' := by
  obtain ⟨p, cap, rfl⟩ := hs.form
  have HS := Lib.hid hs
  obtain ⟨n, hn⟩ : ∃ n, n = l.length := ⟨_, rfl⟩
  rw [← hn] at hl HS ⊢
  have HN := Lib.hid hn
  have HL := Lib.hid hl
  clear hs hn hl
  go_enter Try.func48, Try.ntmps48
  go_wp2_with fail
  go_loopw [8] (fun i wr => ∃ k : Nat, k ≤ n ∧ i = .int .i64 k ∧ Hid (x ∉ l.take k) ∧ Hid (Below w.heap.size w wr)) (fun i _ => n - (intOf i).toNat)
  case atStart => exact ⟨0, Nat.zero_le _, rfl, Lib.hid (by simp), Lib.hid (Below.refl _ w)⟩
  case round =>
    obtain ⟨k, hk, rfl, H, B⟩ := hrel
    by_cases hlt : k < n
    · obtain ⟨j1, j2, j3⟩ := next5 hlt HL.out
      have hkl : k < l.length := by rw [← HN.out]; exact hlt
      obtain ⟨a, rfl, h1⟩ := (HS.out.kb B.out).at hkl
      have HAT := Lib.hid (List.getElem?_eq_getElem hkl)
      have HTK : Hid (l.take (k + 1) = l.take k ++ [l[k]]) := Lib.hid (List.take_succ_eq_append_getElem hkl)
      generalize l[k] = y at *
      have HLT := Lib.hid hlt
      clear hkl hk
      by_cases c : x = y
      · have dc : (x == y) = true := by simpa using c
        have C := Lib.hid c
        clear c
        go_wp2_with fail
        go_ret
        exact ⟨⟨k, rfl, ⟨fun _ => by rw [C.out]; exact List.mem_of_getElem? HAT.out, fun _ => Int.natCast_nonneg _⟩⟩, B.out⟩
      · have dc : (x == y) = false := by simpa using c
        have C := Lib.hid c
        clear c
        go_wp2_with fail
        refine ⟨⟨k + 1, HLT.out, by rw [j1], Lib.hid (by rw [HTK.out, List.mem_append, List.mem_singleton]; exact fun h => h.elim H.out C.out), Lib.hid B.out⟩, ?_⟩
        rw [j1]; exact meas5 HLT.out
    · obtain rfl : k = n := Nat.le_antisymm hk (Nat.le_of_not_lt hlt)
      go_wp2_with fail
      go_ret
      have h := H.out
      rw [HN.out, List.take_length] at h
      exact ⟨⟨-1, rfl, ⟨fun h2 => absurd h2 (by decide), fun h2 => absurd h2 h⟩⟩, B.out⟩
theorem ncont_to (w : World) (v : Value) (l : List Int) (x : Int) (hs : NSeen w v l) (hl : l.length ≤ 1000000) :
    Calls Try.prog 44 #[v, .int .i64 x] w fun e w' => e = .returned (.bool (decide (x ∈ l))) ∧ Below w.heap.size w w' := by
  have HI := Lib.hid (nidx_to w v l x hs hl)
  obtain ⟨p, cap, rfl⟩ := hs.form
  clear hs hl
  go_enter Try.func44, Try.ntmps44
  go_wp2_with fail
  refine HI.out.mono ?_
  rintro e w1 ⟨⟨r, rfl, hr⟩, b1⟩
  have HR := Lib.hid hr
  have B1 := Lib.hid b1
  clear hr b1
  go_wp2_with fail
  go_ret
  refine ⟨?_, B1.out⟩
  have h := HR.out
  by_cases c : x ∈ l
  · have := h.2 c
    simp [c, this]
  · have : ¬ 0 ≤ r := fun h2 => c (h.1 h2)
    simp [c, this]
theorem has_inT (n m : Nat) (p : Int) : (decide (0 ≤ p) && sphasB [((0 : Int), (n : Int) - 1), (spl, spl + (m : Int) - 1)] p) = inT n m p := by
  rw [Bool.eq_iff_iff]
  unfold sphasB inT spl
  simp
  omega
/-- A table's value. -/
abbrev tv (p : Option Addr) (n c : Nat) (q : Option Addr) (m d : Nat) : Value := .agg #[.slice p n c, .slice q m d]
theorem ids_to (w : World) (p q : Option Addr) (n c m d : Nat) (hn : n ≤ 1000000) (hm : m ≤ 1000000) :
    Calls Try.prog 42 #[tv p n c q m d] w fun e w' => ∃ v, e = .returned v ∧ SSeen w' v [((0 : Int), (n : Int) - 1), (spl, spl + (m : Int) - 1)] ∧ Below w.heap.size w w' := by
  have h1 : wrap64 ((n : Int) - 1) = (n : Int) - 1 := by unfold wrap64; omega
  have h2 : wrap64 (1099511627776 + (m : Int)) = 1099511627776 + (m : Int) := by unfold wrap64; omega
  have h3 : wrap64 (1099511627776 + (m : Int) - 1) = 1099511627776 + (m : Int) - 1 := by unfold wrap64; omega
  have b1 := (Below.refl w.heap.size w).alloc (Nat.le_refl _) (.cells #[.slice p n c, .slice q m d] 25)
  have b2 := b1.alloc b1.size (.cells #[.int .i64 0, .int .i64 ((n : Int) - 1), .int .i64 1099511627776, .int .i64 (1099511627776 + (m : Int) - 1)] 81)
  have hl := heap_alloc_last (w.alloc (.cells #[.slice p n c, .slice q m d] 25)) (.cells #[.int .i64 0, .int .i64 ((n : Int) - 1), .int .i64 1099511627776, .int .i64 (1099511627776 + (m : Int) - 1)] 81)
  rw [show (w.alloc (.cells #[.slice p n c, .slice q m d] 25)).heap.size = w.heap.size + 1 by simp] at hl
  have HH := Lib.hid hl
  have B2 := Lib.hid b2
  clear b1 b2 hl
  go_enter Try.func42, Try.ntmps42
  go_wp2_with fail
  go_ret
  refine ⟨_, rfl, ⟨_, 2, rfl, Nat.le_refl _, fun j s hj => ?_⟩, B2.out⟩
  have hc := fun k u (hk : (#[Value.int .i64 0, .int .i64 ((n : Int) - 1), .int .i64 1099511627776, .int .i64 (1099511627776 + (m : Int) - 1)] : Array Value)[k]? = some u) => cell_ob5 HH.out k hk
  match j, hj with
  | 0, hj =>
    obtain rfl : ((0 : Int), (n : Int) - 1) = s := by simpa using hj
    exact ⟨_, 0, rfl, by simp, by simp⟩
  | 1, hj =>
    obtain rfl : (spl, spl + (m : Int) - 1) = s := by simpa using hj
    exact ⟨_, 0, rfl, by simp [spl], by simp [spl]⟩
/-- Are the first j parents as they may be? -/
def okj (m n : Nat) (id : Int) (l : List Int) (j : Nat) : Prop := ∀ (i : Nat) (p : Int), i < j → l[i]? = some p → inT m n p = true ∧ p < id ∧ p ∉ l.take i
theorem okj_next {m n : Nat} {id : Int} {l : List Int} {j : Nat} {p : Int} (h : okj m n id l j) (hp : l[j]? = some p) (h1 : inT m n p = true) (h2 : p < id) (h3 : p ∉ l.take j) : okj m n id l (j + 1) := fun i q hi hq => by
  by_cases e : i = j
  · subst e
    rw [hp] at hq
    obtain rfl := Option.some.inj hq
    exact ⟨h1, h2, h3⟩
  · exact h i q (by omega) hq
theorem okj_all {m n : Nat} {id : Int} {l : List Int} (h : okj m n id l l.length) (h4 : l.length ≤ 4) : okp m n id l := ⟨h4, fun j p hp => h j p (List.getElem?_eq_some_iff.1 hp).1 hp⟩
theorem okl_next {m n : Nat} {low : Int} {L : List (List Int)} {k : Nat} {l : List Int} (h : okl m n low (L.take k)) (hk : L[k]? = some l) (hl : okp m n (low + k) l) : okl m n low (L.take (k + 1)) := fun i q hq => by
  have hi := (List.getElem?_eq_some_iff.1 hq).1
  rw [List.length_take] at hi
  rw [List.getElem?_take, if_pos (by omega)] at hq
  by_cases e : i = k
  · subst e
    rw [hk] at hq
    obtain rfl := Option.some.inj hq
    exact hl
  · exact h i q (by rw [List.getElem?_take, if_pos (by omega)]; exact hq)
theorem okl_not {m n : Nat} {low : Int} {L : List (List Int)} {k : Nat} {l : List Int} (hk : L[k]? = some l) (hl : ¬ okp m n (low + k) l) : false = true ↔ okl m n low L := ⟨fun h => (by cases h), fun h => absurd (h k l hk) hl⟩
theorem okl_all {m n : Nat} {low : Int} {L : List (List Int)} (h : okl m n low (L.take L.length)) : true = true ↔ okl m n low L := ⟨fun _ => by rwa [List.take_length] at h, fun _ => rfl⟩
theorem not_len {m n : Nat} {id : Int} {l : List Int} (h : 4 < l.length) : ¬ okp m n id l := fun h2 => by have := h2.1; omega
theorem not_p {m n : Nat} {id : Int} {l : List Int} {j : Nat} {p : Int} (hp : l[j]? = some p) (h : ¬ (inT m n p = true ∧ p < id ∧ p ∉ l.take j)) : ¬ okp m n id l := fun h2 => h (h2.2 j p hp)
theorem low_fit {low : Int} {k : Nat} (h : low = 0 ∨ low = spl) (hk : k ≤ 1000000) : wrap64 (low + (k : Int)) = low + (k : Int) := by
  unfold wrap64 spl at *; omega
set_option maxHeartbeats 8000000 in
theorem allows_to (w : World) (B : Nat) (p q : Option Addr) (n c m d : Nat) (hn : n ≤ 1000000) (hm : m ≤ 1000000) (low : Int) (hlow : low = 0 ∨ low = spl) (v : Value) (L : List (List Int)) (hL : LS B w v L) (hLl : L.length ≤ 1000000) :
    Calls Try.prog 35 #[tv p n c q m d, .int .i64 low, v] w fun e w' => (∃ b, e = .returned (.bool b) ∧ (b = true ↔ okl n m low L)) ∧ Below w.heap.size w w' := by
  obtain ⟨pl, cl, rfl⟩ := hL.form
  obtain ⟨N, hN⟩ : ∃ N, N = L.length := ⟨_, rfl⟩
  rw [← hN] at hL hLl ⊢
  have HV := Lib.hid hL
  have HN := Lib.hid hN
  have HLN := Lib.hid hLl
  have HLW := Lib.hid hlow
  have B0 := Lib.hid ((Below.refl w.heap.size w).alloc (Nat.le_refl _) (.cells #[.slice p n c, .slice q m d] 25))
  have HT := Lib.hid (heap_alloc_last w (.cells #[.slice p n c, .slice q m d] 25))
  have HI := Lib.hid (fun W => ids_to W p q n c m d hn hm)
  clear hL hN hLl hlow hn hm
  go_enter Try.func35, Try.ntmps35
  go_wp2_with fail
  refine (HI.out _).mono ?_
  rintro e w1 ⟨vi, rfl, si, b1⟩
  have SI := Lib.hid si
  have B1 := Lib.hid (B0.out.trans (b1.mono B0.out.size))
  have HV1 := Lib.hid ((HV.out.kb B0.out).kb b1)
  obtain ⟨pi, ci, rfl⟩ := si.form
  clear si b1 B0 HT HI HV
  go_wp2_with fail
  rename World => w1
  go_loopw [16] (fun i wr => ∃ k : Nat, k ≤ N ∧ i = .int .i64 k ∧ Hid (okl n m low (L.take k)) ∧ Hid (Below w1.heap.size w1 wr)) (fun i _ => N - (intOf i).toNat)
  case atStart => exact ⟨0, Nat.zero_le _, rfl, Lib.hid (fun k l hk => by simp at hk), Lib.hid (Below.refl _ w1)⟩
  case round =>
    obtain ⟨k, hk, rfl, HK, B⟩ := hrel
    by_cases hlt : k < N
    · obtain ⟨j1, j2, j3⟩ := next5 hlt HLN.out
      have hkl : k < L.length := by rw [← HN.out]; exact hlt
      obtain ⟨bb, o, x, rfl, h1, h2⟩ := (HV1.out.kb B.out).at hkl
      have HAT := Lib.hid (List.getElem?_eq_getElem hkl)
      generalize L[k] = l at *
      obtain ⟨px, cx, rfl⟩ := h2.form
      have HX := Lib.hid h2.1
      have HLT := Lib.hid hlt
      have HLK := Lib.hid (low_fit HLW.out (Nat.le_trans (Nat.le_of_lt hlt) HLN.out))
      obtain ⟨nl, hnl⟩ : ∃ nl, nl = l.length := ⟨_, rfl⟩
      rw [← hnl] at h1 HX
      have HNL := Lib.hid hnl
      clear hkl hk hlt h2 hnl
      by_cases c4 : 4 < nl
      · have d4 : decide ((nl : Int) > 4) = true := by simp; omega
        have d4' : decide ((4 : Int) < nl) = true := by simp; omega
        have C4 := Lib.hid c4
        clear c4
        go_wp2_with fail
        go_ret
        exact ⟨⟨false, rfl, okl_not HAT.out (not_len (HNL.out ▸ C4.out))⟩, B1.out.trans (B.out.mono B1.out.size)⟩
      · have d4 : decide ((nl : Int) > 4) = false := by simp; omega
        have d4' : decide ((4 : Int) < nl) = false := by simp; omega
        have C4 : Hid (nl ≤ 4) := Lib.hid (by omega)
        clear c4
        go_wp2_with fail
        rename World => wo
        go_loopw [26] (fun i wx => ∃ j : Nat, j ≤ nl ∧ i = .int .i64 j ∧ Hid (okj n m (low + k) l j) ∧ Hid (Below wo.heap.size wo wx)) (fun i _ => nl - (intOf i).toNat)
        case atStart => exact ⟨0, Nat.zero_le _, rfl, Lib.hid (fun i p hi => absurd hi (Nat.not_lt_zero _)), Lib.hid (Below.refl _ wo)⟩
        case round =>
          clear h1
          obtain ⟨j, hj, rfl, HJ, BX⟩ := hrel
          by_cases hlt : j < nl
          · obtain ⟨i1, i2, i3⟩ := next5 hlt (Nat.le_trans C4.out (by decide))
            have hjl : j < l.length := by rw [← HNL.out]; exact hlt
            have hxs := HX.out.kb BX.out
            obtain ⟨a, rfl, g1⟩ := hxs.at hjl
            have hjc : (j : Int) ≤ cx := by obtain ⟨_, _, e, hc, _⟩ := hxs; injection e with _ _ e; subst e; omega
            have HCT := Lib.hid (fun W y (hW : Below wr.heap.size wr W) => ncont_to W _ _ y ((hxs.kb hW).take (Nat.le_of_lt hjl)) (by rw [List.length_take]; have := HNL.out; have := C4.out; omega))
            have BW := Lib.hid (B1.out.trans ((B.out.trans (BX.out.mono B.out.size)).mono B1.out.size))
            have HHS := Lib.hid (fun W y (hW : Below wr.heap.size wr W) => sphas_to W _ _ y (((SI.out.kb B.out).kb BX.out).kb hW) (show 2 ≤ 1000000 by decide))
            have HGJ := Lib.hid (List.getElem?_eq_getElem hjl)
            generalize l[j] = y at *
            have HLJ := Lib.hid hlt
            obtain ⟨e1, he1⟩ : ∃ e, e = inT n m y := ⟨_, rfl⟩
            have HH1 := HHS.out wr y (Below.refl _ wr)
            rw [has_inT, ← he1] at HH1
            have HHA := Lib.hid HH1
            have HE1 := Lib.hid he1
            clear hxs hjl hlt hj he1 HHS HH1
            cases e1 with
            | false =>
              go_wp2_with fail
              refine HHA.out.mono ?_
              rintro e w3 ⟨rfl, b3⟩
              have B3 := Lib.hid (BW.out.trans (b3.mono BW.out.size))
              clear b3
              go_wp2_with fail
              go_ret
              exact ⟨⟨false, rfl, okl_not HAT.out (not_p HGJ.out (fun h => by rw [← HE1.out] at h; exact absurd h.1 (by decide)))⟩, B3.out⟩
            | true =>
              by_cases c5 : low + (k : Int) ≤ y
              · have d5 : decide (y ≥ low + (k : Int)) = true := by simpa using c5
                have d5' : decide (low + (k : Int) ≤ y) = true := by simpa using c5
                have C5 := Lib.hid c5
                have hlk := HLK.out
                clear c5
                go_wp2_with fail
                refine HHA.out.mono ?_
                rintro e w3 ⟨rfl, b3⟩
                have B3 := Lib.hid (BW.out.trans (b3.mono BW.out.size))
                clear b3
                go_wp2_with fail
                go_ret
                exact ⟨⟨false, rfl, okl_not HAT.out (not_p HGJ.out (fun h => absurd h.2.1 (Int.not_lt.2 C5.out)))⟩, B3.out⟩
              · have d5 : decide (y ≥ low + (k : Int)) = false := by simpa using c5
                have d5' : decide (low + (k : Int) ≤ y) = false := by simpa using c5
                have C5 : Hid (y < low + (k : Int)) := Lib.hid (Int.not_le.1 c5)
                have hlk := HLK.out
                clear c5
                go_wp2_with fail
                refine HHA.out.mono ?_
                rintro e w3 ⟨rfl, b3⟩
                obtain ⟨e2, he2⟩ : ∃ e, e = decide (y ∈ l.take j) := ⟨_, rfl⟩
                have HH2 := HCT.out w3 y b3
                rw [← he2] at HH2
                have HHB := Lib.hid HH2
                have HE2 := Lib.hid he2
                have B3 := Lib.hid (BW.out.trans (b3.mono BW.out.size))
                have BX3 := Lib.hid (BX.out.trans (b3.mono BX.out.size))
                clear b3 HH2 he2 HCT
                go_wp2_with fail
                refine HHB.out.mono ?_
                rintro e w4 ⟨rfl, b4⟩
                have B4 := Lib.hid (B3.out.trans (b4.mono B3.out.size))
                have BX4 := Lib.hid (BX3.out.trans (b4.mono BX3.out.size))
                clear b4
                cases e2 with
                | true =>
                  go_wp2_with fail
                  go_ret
                  exact ⟨⟨false, rfl, okl_not HAT.out (not_p HGJ.out (fun h => h.2.2 (of_decide_eq_true HE2.out.symm)))⟩, B4.out⟩
                | false =>
                  go_wp2_with fail
                  refine ⟨⟨j + 1, HLJ.out, by rw [i1], Lib.hid (okj_next HJ.out HGJ.out HE1.out.symm C5.out (of_decide_eq_false HE2.out.symm)), BX4⟩, ?_⟩
                  rw [i1]; exact meas5 HLJ.out
          · obtain rfl : j = nl := Nat.le_antisymm hj (Nat.le_of_not_lt hlt)
            have HB2 := Lib.hid (B.out.trans (BX.out.mono B.out.size))
            go_wp2_with fail
            refine ⟨⟨k + 1, HLT.out, by rw [j1], Lib.hid (okl_next HK.out HAT.out (okj_all (HNL.out ▸ HJ.out) (HNL.out ▸ C4.out))), HB2⟩, ?_⟩
            rw [j1]; exact meas5 HLT.out
    · obtain rfl : k = N := Nat.le_antisymm hk (Nat.le_of_not_lt hlt)
      go_wp2_with fail
      go_ret
      have h := HK.out
      rw [HN.out] at h
      exact ⟨⟨true, rfl, okl_all h⟩, B1.out.trans (B.out.mono B1.out.size)⟩
end Go.Proofs.Ytadglppplgeldaa
