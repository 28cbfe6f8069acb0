/- SpansPick returns true and makes new memory alone. Condition: the numbers are ints. -/
import Derived.Test.YtpjfgkjhhmfhkaaSpnXq
import Derived.Test.YtpjfgkjhhmfhkaaSpnTw
import Derived.Test.YtpjfgkjhhmfhkaaSpnNu
namespace Go.Proofs.Ytpjfgkjhhmfhkaa
open Go.RowKit

section
variable {w W W' : World} {xs : List Ent} {x y : Ent}
theorem klow (K : Kp w W xs) (i : Nat) (hi : xs[i]? = some x) (h : x.n ≤ 900000) : Calls Try.prog 13 #[x.v] W fun e W' => e = .returned (.tuple #[.int .i64 (loV (mk x.l)).1, .bool (loV (mk x.l)).2]) ∧ Kp w W' xs := by
  obtain ⟨h1, h2, h3⟩ := K.at hi
  refine (low_to W x.v x.l h1 (by omega) h3).mono ?_
  rintro e W' ⟨rfl, b⟩
  exact ⟨rfl, K.next b⟩
theorem kxhas (K : Kp w W xs) (i : Nat) (hi : xs[i]? = some x) (h : x.n ≤ 900000) (z : Int) : Calls Try.prog 33 #[x.v, .int .i64 z] W fun e W' => e = .returned (.bool (decide (0 ≤ z) && hasB x.l z)) ∧ Kp w W' xs := by
  obtain ⟨h1, h2, h3⟩ := K.at hi
  refine (xhas_to W x.v x.l z h1 (by omega)).mono ?_
  rintro e W' ⟨rfl, b⟩
  exact ⟨rfl, K.next b⟩
theorem kxfirst (K : Kp w W xs) (i : Nat) (hi : xs[i]? = some x) (h : x.n ≤ 200000) (n : Int) (hn : n < 9223372036854775808) : Calls Try.prog 34 #[x.v, .int .i64 n] W fun e W' => ∃ v', e = .returned v' ∧ Kp w W' (⟨v', fir x.l n.toNat, x.n + 1⟩ :: xs) := by
  obtain ⟨h1, h2, h3⟩ := K.at hi
  refine (xfirst_to W x.v x.l n h1 (by omega) h3 hn).mono ?_
  rintro e W' ⟨v', rfl, o, b⟩
  exact ⟨v', rfl, (K.next b).push o.seen (Nat.le_trans (fir_len _ _) (by show _ ≤ x.n + 1; omega)) (fir_top h3 _)⟩
theorem kxlast (K : Kp w W xs) (i : Nat) (hi : xs[i]? = some x) (h : x.n ≤ 200000) (n : Int) (hn : n < 9223372036854775808) : Calls Try.prog 35 #[x.v, .int .i64 n] W fun e W' => ∃ v', e = .returned v' ∧ Kp w W' (⟨v', las x.l n.toNat, x.n + 1⟩ :: xs) := by
  obtain ⟨h1, h2, h3⟩ := K.at hi
  refine (xlast_to W x.v x.l n h1 (by omega) h3 hn).mono ?_
  rintro e W' ⟨v', rfl, o, b⟩
  exact ⟨v', rfl, (K.next b).push o.seen (Nat.le_trans (las_len _ _) (by show _ ≤ x.n + 1; omega)) (las_top h3 _)⟩
theorem kxskip (K : Kp w W xs) (i : Nat) (hi : xs[i]? = some x) (h : x.n ≤ 200000) (n : Int) (hn : n < 9223372036854775808) : Calls Try.prog 36 #[x.v, .int .i64 n] W fun e W' => ∃ v', e = .returned v' ∧ Kp w W' (⟨v', ski x.l n.toNat, x.n + 1⟩ :: xs) := by
  obtain ⟨h1, h2, h3⟩ := K.at hi
  refine (xskip_to W x.v x.l n h1 (by omega) h3 hn).mono ?_
  rintro e W' ⟨v', rfl, o, b⟩
  exact ⟨v', rfl, (K.next b).push o.seen (Nat.le_trans (ski_len _ _) (by show _ ≤ x.n + 1; omega)) (ski_top h3 _)⟩
theorem kxids (K : Kp w W xs) (i : Nat) (hi : xs[i]? = some x) (h : x.n ≤ 200000) (n : Int) (hn : n < 9223372036854775808) (hc : cnt (fir x.l n.toNat) ≤ 1000000) : Calls Try.prog 37 #[x.v, .int .i64 n] W fun e W' => ∃ v', e = .returned v' ∧ NOwn W' W.heap.size v' (els (fir x.l n.toNat)).reverse ∧ Kp w W' xs := by
  obtain ⟨h1, h2, h3⟩ := K.at hi
  refine (xids_to W x.v x.l n h1 (by omega) h3 hn hc).mono ?_
  rintro e W' ⟨v', rfl, o, b⟩
  exact ⟨v', rfl, o, K.next b⟩
end
theorem fir_cnt (l : List Sp) (n : Nat) : cnt (fir l n) ≤ n := by
  unfold fir
  rw [rest_cnt (mk_nrm l)]
  omega
/-- The ends of a set, as its slice shows them. -/
theorem ends_none {m : List Sp} (h : m.length = 0) : loV m = (0, false) ∧ hiV m = (0, false) := by
  obtain rfl : m = [] := List.eq_nil_of_length_eq_zero h
  exact ⟨rfl, rfl⟩
theorem ends_some {m : List Sp} (h : 0 < m.length) : loV m = (m[0].1, true) ∧ hiV m = ((m[m.length - 1]'(by omega)).2, true) := by
  cases m with
  | nil => simp at h
  | cons s m =>
    refine ⟨rfl, ?_⟩
    unfold hiV
    rw [List.getLast?_eq_getElem?]
    simp only [List.length_cons, Nat.add_sub_cancel]
    rw [List.getElem?_eq_getElem (by simp)]
set_option maxRecDepth 20000 in
set_option maxHeartbeats 16000000 in
theorem spansPick_walk (w : World) (va : Value) (wild : Bool) (id n : Int) (la : List Int) (ha : NSeen w va la) (hra : ∀ x ∈ la, x < 9223372036854775808) : Calls Try.prog 5 #[va, .bool wild, .int .i64 id, .int .i64 n] w fun e w' => e = .returned (.bool true) ∧ Below w.heap.size w w' := by
  have HA := Lib.hid ha
  obtain ⟨pa, ca, rfl⟩ := ha.form
  have HRA := Lib.hid hra
  have K0 := Lib.hid (Kp.start w)
  obtain ⟨lz, hlz⟩ : ∃ lz, lz = la.length := ⟨_, rfl⟩
  have HLZ := Lib.hid hlz
  rw [← hlz] at HA ⊢
  have hcap : lz ≤ ca := HA.out.cap
  clear ha hra hlz
  go_enter Try.func5, Try.ntmps5
  go_wp2_with fail
  refine (kset K0.out _ la wild HA.out).mono ?_
  rintro e w1 ⟨v1, L1, rfl, ok1, k⟩
  have K1 := Lib.hid k
  have S1 := Lib.hid (HA.out.kb k.bel)
  clear k ok1 K0 HA
  go_wp2_with fail
  refine (pick_any w1 id 70 (by decide) (by decide)).mono ?_
  rintro e wq ⟨rfl, rfl⟩
  obtain ⟨q, hq⟩ : ∃ q, q = id % 70 := ⟨_, rfl⟩
  have hq0 : 0 ≤ q := by omega
  have hq1 : q < 70 := by omega
  rw [← hq]
  have hw1 : wrap64 (q - 4) = q - 4 := by unfold wrap64; omega
  clear hq
  go_wp2_with fail
  generalize q - 4 = d at *
  refine (pick_any w1 n 40 (by decide) (by decide)).mono ?_
  rintro e wq ⟨rfl, rfl⟩
  obtain ⟨u, hu⟩ : ∃ u, u = n % 40 := ⟨_, rfl⟩
  have hu0 : 0 ≤ u := by omega
  have hu1 : u < 40 := by omega
  rw [← hu]
  have hw2 : wrap64 (u - 2) = u - 2 := by unfold wrap64; omega
  have hnb : u - 2 < 9223372036854775808 := by omega
  have hnc : (u - 2).toNat ≤ 40 := by omega
  clear hu hq0 hq1
  go_wp2_with fail
  generalize u - 2 = nn at *
  clear hu0 hu1
  have HNB := Lib.hid hnb
  have HCF : Hid (cnt (fir (Ent.mk v1 L1 12).l nn.toNat) ≤ 1000000) := Lib.hid (Nat.le_trans (fir_cnt _ _) (by omega))
  have HLI : Hid ((els (fir L1 nn.toNat)).reverse.length ≤ 1000000000) := Lib.hid (by rw [List.length_reverse]; exact Nat.le_trans (fir_cnt _ _) (by omega))
  clear hnb hnc
  refine (kxmake K1.out.re 0 rfl (by dsimp only; decide)).mono ?_
  rintro e w2 ⟨v2, rfl, k⟩
  dsimp only at k
  have hM0 := k.at (i := 0) rfl
  dsimp only at hM0
  obtain ⟨pm, cm, rfl⟩ := hM0.1.form
  have S2 := Lib.hid (S1.out.kb k.bel)
  have K2 := Lib.hid (K1.out.frm k)
  have HEN := Lib.hid (fun (h : (mk L1).length = 0) => ends_none h)
  have HES := Lib.hid (fun (h : 0 < (mk L1).length) => ends_some h)
  obtain ⟨M, hM⟩ : ∃ M, M = mk L1 := ⟨_, rfl⟩
  have HMM := Lib.hid hM
  rw [← hM] at K2 ⊢
  have SM : Hid (SSeen w2 (.slice pm M.length cm) M) := Lib.hid (by have h := hM0.1; rw [← hM] at h; exact h)
  obtain ⟨lm, hlm⟩ : ∃ lm, lm = M.length := ⟨_, rfl⟩
  have HLM := Lib.hid hlm
  rw [← hlm] at K2 SM ⊢
  have hlm12 : lm ≤ 12 := by have h := hM0.2.1; rw [← hM, ← hlm] at h; exact h
  obtain ⟨lo, okb, hi, hE1, hE2, hok⟩ : ∃ lo okb hi, loV (mk L1) = (lo, okb) ∧ hiV (mk L1) = (hi, okb) ∧ ((okb = false ∧ lm = 0) ∨ (okb = true ∧ 0 < lm ∧ ∃ (h1 : 0 < M.length) (h2 : lm - 1 < M.length), lo = M[0].1 ∧ hi = M[lm - 1].2)) := by
    rw [← hM] at HEN HES ⊢
    rcases Nat.eq_zero_or_pos lm with h0 | h0
    · exact ⟨0, false, 0, (HEN.out (by omega)).1, (HEN.out (by omega)).2, .inl ⟨rfl, h0⟩⟩
    · have h := HES.out (by omega)
      refine ⟨_, true, _, h.1, h.2, .inr ⟨rfl, h0, by omega, by omega, rfl, ?_⟩⟩
      subst hlm
      rfl
  have HE1 := Lib.hid hE1
  have HE2 := Lib.hid hE2
  have HOK := Lib.hid hok
  clear k K1 S1 HEN HES hM hM0 hlm hE1 hE2 hok
  go_wp2_with fail
  refine (klow K2.out.re 1 rfl (by dsimp only; decide)).mono ?_
  rintro e w3 ⟨rfl, k⟩
  dsimp only
  rw [HE1.out]
  have S3 := Lib.hid (S2.out.kb k.bel)
  have SN := Lib.hid (SM.out.kb k.bel)
  have K3 := Lib.hid (K2.out.frm k)
  clear k K2 S2 SM HE1
  go_wp2_with fail
  refine (khigh K3.out.re 1 rfl (by dsimp only; decide)).mono ?_
  rintro e w4 ⟨rfl, k⟩
  dsimp only
  rw [HE2.out]
  have S4 := Lib.hid (S3.out.kb k.bel)
  have SO := Lib.hid (SN.out.kb k.bel)
  have K4 := Lib.hid (K3.out.frm k)
  clear k K3 S3 SN HE2
  obtain ⟨m, hm⟩ : ∃ m : Nat, m = min lz 40 := ⟨_, rfl⟩
  have hm1 : (m : Int) ≤ (ca : Int) := by omega
  have hm2 : (0 : Int) ≤ (m : Int) := by omega
  have hm3 : min (lz : Int) 40 = (m : Int) := by omega
  have HML : Hid (m ≤ la.length) := Lib.hid (by rw [← HLZ.out]; omega)
  have hml : m ≤ 40 := by omega
  have HLT : Hid ((la.take m).length ≤ 900000) := Lib.hid (by rw [List.length_take]; omega)
  have HLT2 : Hid ((la.take m).length ≤ 800000) := Lib.hid (by rw [List.length_take]; omega)
  have HTT : Hid (∀ x ∈ la.take m, x ≤ topN) := Lib.hid (fun x hx => by have := HRA.out x (List.mem_of_mem_take hx); unfold topN; omega)
  have HLO : Hid ((mk ((la.take m).map one)).length ≤ 1000000000) := Lib.hid (Nat.le_trans (mk_len _) (by rw [List.length_map, List.length_take]; omega))
  clear hm
  rcases HOK.out with ⟨rfl, rfl⟩ | ⟨rfl, h0, h1, h2, h3, h4⟩
  focus
    clear HOK
    go_upto_region 9 with fail
  rotate_left
  focus
    clear HOK
    obtain ⟨b, o, rfl, a1, x1⟩ := SO.out.at h1
    obtain ⟨b', o', e9, x2, a2⟩ := SO.out.at h2
    injection e9 with e9
    injection e9 with e9 e10
    subst e9 e10
    rw [← h3] at a1
    rw [← h4] at a2
    rw [Nat.zero_mul, Nat.add_zero] at a1
    clear x1 x2 h3 h4
    clear h1 h2
    obtain ⟨j, rfl⟩ : ∃ j, lm = j + 1 := ⟨lm - 1, by omega⟩
    rw [Nat.add_sub_cancel] at a2
    have hwj : wrap64 ((j : Int) + 1 - 1) = (j : Int) := by unfold wrap64; omega
    have hw2 : IntKind.i64.wrap (j : Int) = (j : Int) := by rw [wrap64_eq]; unfold wrap64; omega
    have hj1 : (j : Int) < (j : Int) + 1 := by omega
    have hj2 : (0 : Int) ≤ (j : Int) := by omega
    have hj3 : (0 : Int) < (j : Int) + 1 := by omega
    have dl : decide ((j : Int) + 1 > 0) = true := decide_eq_true hj3
    have dl2 : decide (0 < (j : Int) + 1) = true := decide_eq_true hj3
    clear h0
    go_upto_region 9 with fail
  all_goals
    have K20 := Lib.hid (kp_drew K4.out)
    have S20 : Hid (NSeen w4.drew (.slice pa lz ca) la) := Lib.hid S4.out
    clear K4 S4 SO
    try simp only [List.append]
    refine wp_region_noPanic ?_
    refine wp_region_held_drew (S := (fun _ => True)) (by kernel_rfl) trivial (fun hHeld => ?_)
    refine wpAnyH_ready (rs := [0]) (by kernel_rfl) (by simp) ?_
    refine AllReadyH.cons (by simp only [List.getElem?_toArray, List.getElem?_cons_zero]; rfl) (fun K hK => ?_) AllReadyH.nil
    go_simp
    refine (kknown K20.out.re).mono ?_
    rintro e w21 ⟨rfl, k⟩
    have S21 := Lib.hid (S20.out.kb k.bel)
    have K21 := Lib.hid (K20.out.frm k)
    clear k K20 S20
    go_wp2_with fail
    refine hK.out _ _ trivial (fun hHeld => ?_)
    clear hK K
    try simp only [Act.put, List.setIfInBounds_toArray, List.set_cons_zero, List.set_cons_succ]
    refine wpAnyH_take (i := 1) (v := ?_) (by simp only [List.getElem?_toArray, List.getElem?_cons_succ, List.getElem?_cons_zero]; rfl) (by kernel_rfl) (by kernel_rfl) (by kernel_rfl) (fun _ _ _ h => h) (Or.inl ⟨by rfl, ?_⟩) (by assumption) ?_
    rotate_left
    · intro w hSw
      try dsimp only at hSw
      go_simp
      try with_reducible rfl
    try simp only [Act.put, List.setIfInBounds_toArray, List.set_cons_zero, List.set_cons_succ]
    refine wpAnyH_take (i := 2) (v := ?_) (by simp only [List.getElem?_toArray, List.getElem?_cons_succ, List.getElem?_cons_zero]; rfl) (by kernel_rfl) (by kernel_rfl) (by kernel_rfl) (fun _ _ _ h => h) (Or.inl ⟨by rfl, ?_⟩) (by assumption) ?_
    rotate_left
    · intro w hSw
      try dsimp only at hSw
      go_simp
      try with_reducible rfl
    try simp only [Act.put, List.setIfInBounds_toArray, List.set_cons_zero, List.set_cons_succ]
    refine wpAnyH_take (i := 3) (v := ?_) (by simp only [List.getElem?_toArray, List.getElem?_cons_succ, List.getElem?_cons_zero]; rfl) (by kernel_rfl) (by kernel_rfl) (by kernel_rfl) (fun _ _ _ h => h) (Or.inl ⟨by rfl, ?_⟩) (by assumption) ?_
    rotate_left
    · intro w hSw
      try dsimp only at hSw
      go_simp
      try with_reducible rfl
    try simp only [Act.put, List.setIfInBounds_toArray, List.set_cons_zero, List.set_cons_succ]
    refine wpAnyH_take (i := 5) (v := ?_) (by simp only [List.getElem?_toArray, List.getElem?_cons_succ, List.getElem?_cons_zero]; rfl) (by kernel_rfl) (by kernel_rfl) (by kernel_rfl) (fun _ _ _ h => h) (Or.inl ⟨by rfl, ?_⟩) (by assumption) ?_
    rotate_left
    · intro w hSw
      try dsimp only at hSw
      go_simp
      try with_reducible rfl
    try simp only [Act.put, List.setIfInBounds_toArray, List.set_cons_zero, List.set_cons_succ]
    refine wpAnyH_take (i := 6) (v := ?_) (by simp only [List.getElem?_toArray, List.getElem?_cons_succ, List.getElem?_cons_zero]; rfl) (by kernel_rfl) (by kernel_rfl) (by kernel_rfl) (fun _ _ _ h => h) (Or.inl ⟨by rfl, ?_⟩) (by assumption) ?_
    rotate_left
    · intro w hSw
      try dsimp only at hSw
      go_simp
      try with_reducible rfl
    try simp only [Act.put, List.setIfInBounds_toArray, List.set_cons_zero, List.set_cons_succ]
    refine wpAnyH_ready (rs := [4]) (by kernel_rfl) (by simp) ?_
    refine AllReadyH.cons (by simp only [List.getElem?_toArray, List.getElem?_cons_succ, List.getElem?_cons_zero]; rfl) (fun K hK => ?_) AllReadyH.nil
    go_simp
    refine (khas K21.out.re 1 rfl (by dsimp only; decide) d).mono ?_
    rintro e w22 ⟨rfl, k⟩
    dsimp only
    have S22 := Lib.hid (S21.out.kb k.bel)
    have K22 := Lib.hid (K21.out.frm k)
    clear k K21 S21
    go_wp2_with fail
    refine hK.out _ _ trivial (fun hHeld => ?_)
    clear hK K
    try simp only [Act.put, List.setIfInBounds_toArray, List.set_cons_zero, List.set_cons_succ]
    refine wpAnyH_ready (rs := [7]) (by kernel_rfl) (by simp) ?_
    refine AllReadyH.cons (by simp only [List.getElem?_toArray, List.getElem?_cons_succ, List.getElem?_cons_zero]; rfl) (fun K hK => ?_) AllReadyH.nil
    go_simp
    refine (kxhas K22.out.re 1 rfl (by dsimp only; decide) d).mono ?_
    rintro e w23 ⟨rfl, k⟩
    dsimp only
    have S23 := Lib.hid (S22.out.kb k.bel)
    have K23 := Lib.hid (K22.out.frm k)
    clear k K22 S22
    go_wp2_with fail
    refine hK.out _ _ trivial (fun hHeld => ?_)
    clear hK K
    try simp only [Act.put, List.setIfInBounds_toArray, List.set_cons_zero, List.set_cons_succ]
    generalize (decide (0 ≤ d) && hasB L1 d) = hb at *
    have hbb : (hb == hb) = true := by simp
    refine wpAnyH_take (i := 8) (v := ?_) (by simp only [List.getElem?_toArray, List.getElem?_cons_succ, List.getElem?_cons_zero]; rfl) (by kernel_rfl) (by kernel_rfl) (by kernel_rfl) (fun _ _ _ h => h) (Or.inl ⟨by rfl, ?_⟩) (by assumption) ?_
    rotate_left
    · intro w hSw
      try dsimp only at hSw
      go_simp
      try with_reducible rfl
    try simp only [Act.put, List.setIfInBounds_toArray, List.set_cons_zero, List.set_cons_succ]
    refine wpAnyH_take (i := 9) (v := ?_) (by simp only [List.getElem?_toArray, List.getElem?_cons_succ, List.getElem?_cons_zero]; rfl) (by kernel_rfl) (by kernel_rfl) (by kernel_rfl) (fun _ _ _ h => h) (Or.inl ⟨by rfl, ?_⟩) (by assumption) ?_
    rotate_left
    · intro w hSw
      try dsimp only at hSw
      go_simp
      try with_reducible rfl
    try simp only [Act.put, List.setIfInBounds_toArray, List.set_cons_zero, List.set_cons_succ]
    refine wpAnyH_take (i := 10) (v := ?_) (by simp only [List.getElem?_toArray, List.getElem?_cons_succ, List.getElem?_cons_zero]; rfl) (by kernel_rfl) (by kernel_rfl) (by kernel_rfl) (fun _ _ _ h => h) (Or.inl ⟨by rfl, ?_⟩) (by assumption) ?_
    rotate_left
    · intro w hSw
      try dsimp only at hSw
      go_simp
      try with_reducible rfl
    try simp only [Act.put, List.setIfInBounds_toArray, List.set_cons_zero, List.set_cons_succ]
    refine wpAnyH_take (i := 11) (v := ?_) (by simp only [List.getElem?_toArray, List.getElem?_cons_succ, List.getElem?_cons_zero]; rfl) (by kernel_rfl) (by kernel_rfl) (by kernel_rfl) (fun _ _ _ h => h) (Or.inl ⟨by rfl, ?_⟩) (by assumption) ?_
    rotate_left
    · intro w hSw
      try dsimp only at hSw
      go_simp
      try with_reducible rfl
    try simp only [Act.put, List.setIfInBounds_toArray, List.set_cons_zero, List.set_cons_succ]
    refine wpAnyH_take (i := 12) (v := ?_) (by simp only [List.getElem?_toArray, List.getElem?_cons_succ, List.getElem?_cons_zero]; rfl) (by kernel_rfl) (by kernel_rfl) (by kernel_rfl) (fun _ _ _ h => h) (Or.inl ⟨by rfl, ?_⟩) (by assumption) ?_
    rotate_left
    · intro w hSw
      try dsimp only at hSw
      go_simp
      try with_reducible rfl
    try simp only [Act.put, List.setIfInBounds_toArray, List.set_cons_zero, List.set_cons_succ]
    refine wpAnyH_take (i := 14) (v := ?_) (by simp only [List.getElem?_toArray, List.getElem?_cons_succ, List.getElem?_cons_zero]; rfl) (by kernel_rfl) (by kernel_rfl) (by kernel_rfl) (fun _ _ _ h => h) (Or.inl ⟨by rfl, ?_⟩) (by assumption) ?_
    rotate_left
    · intro w hSw
      try dsimp only at hSw
      go_simp
      try with_reducible rfl
    try simp only [Act.put, List.setIfInBounds_toArray, List.set_cons_zero, List.set_cons_succ]
    refine wpAnyH_take (i := 15) (v := ?_) (by simp only [List.getElem?_toArray, List.getElem?_cons_succ, List.getElem?_cons_zero]; rfl) (by kernel_rfl) (by kernel_rfl) (by kernel_rfl) (fun _ _ _ h => h) (Or.inl ⟨by rfl, ?_⟩) (by assumption) ?_
    rotate_left
    · intro w hSw
      try dsimp only at hSw
      go_simp
      try with_reducible rfl
    try simp only [Act.put, List.setIfInBounds_toArray, List.set_cons_zero, List.set_cons_succ]
    refine wpAnyH_ready (rs := [13]) (by kernel_rfl) (by simp) ?_
    refine AllReadyH.cons (by simp only [List.getElem?_toArray, List.getElem?_cons_succ, List.getElem?_cons_zero]; rfl) (fun K hK => ?_) AllReadyH.nil
    go_simp
    refine (kfirst K23.out.re 1 rfl (by dsimp only; decide) nn HNB.out).mono ?_
    rintro e w24 ⟨v24, rfl, k⟩
    have S24 := Lib.hid (S23.out.kb k.bel)
    have K24 := Lib.hid (K23.out.frm k)
    clear k K23 S23
    go_wp2_with fail
    refine hK.out _ _ trivial (fun hHeld => ?_)
    clear hK K
    try simp only [Act.put, List.setIfInBounds_toArray, List.set_cons_zero, List.set_cons_succ]
    refine wpAnyH_ready (rs := [16]) (by kernel_rfl) (by simp) ?_
    refine AllReadyH.cons (by simp only [List.getElem?_toArray, List.getElem?_cons_succ, List.getElem?_cons_zero]; rfl) (fun K hK => ?_) AllReadyH.nil
    go_simp
    refine (kxfirst K24.out.re 2 rfl (by dsimp only; decide) nn HNB.out).mono ?_
    rintro e w25 ⟨v25, rfl, k⟩
    have S25 := Lib.hid (S24.out.kb k.bel)
    have K25 := Lib.hid (K24.out.frm k)
    clear k K24 S24
    go_wp2_with fail
    refine hK.out _ _ trivial (fun hHeld => ?_)
    clear hK K
    try simp only [Act.put, List.setIfInBounds_toArray, List.set_cons_zero, List.set_cons_succ]
    refine wpAnyH_ready (rs := [17]) (by kernel_rfl) (by simp) ?_
    refine AllReadyH.cons (by simp only [List.getElem?_toArray, List.getElem?_cons_succ, List.getElem?_cons_zero]; rfl) (fun K hK => ?_) AllReadyH.nil
    go_simp
    refine (ksame K25.out.re 1 0 rfl rfl (by dsimp only; decide) rfl).mono ?_
    rintro e w26 ⟨rfl, k⟩
    have S26 := Lib.hid (S25.out.kb k.bel)
    have K26 := Lib.hid (K25.out.frm k)
    clear k K25 S25
    go_wp2_with fail
    refine hK.out _ _ trivial (fun hHeld => ?_)
    clear hK K
    try simp only [Act.put, List.setIfInBounds_toArray, List.set_cons_zero, List.set_cons_succ]
    refine wpAnyH_take (i := 18) (v := ?_) (by simp only [List.getElem?_toArray, List.getElem?_cons_succ, List.getElem?_cons_zero]; rfl) (by kernel_rfl) (by kernel_rfl) (by kernel_rfl) (fun _ _ _ h => h) (Or.inl ⟨by rfl, ?_⟩) (by assumption) ?_
    rotate_left
    · intro w hSw
      try dsimp only at hSw
      go_simp
      try with_reducible rfl
    try simp only [Act.put, List.setIfInBounds_toArray, List.set_cons_zero, List.set_cons_succ]
    refine wpAnyH_take (i := 19) (v := ?_) (by simp only [List.getElem?_toArray, List.getElem?_cons_succ, List.getElem?_cons_zero]; rfl) (by kernel_rfl) (by kernel_rfl) (by kernel_rfl) (fun _ _ _ h => h) (Or.inl ⟨by rfl, ?_⟩) (by assumption) ?_
    rotate_left
    · intro w hSw
      try dsimp only at hSw
      go_simp
      try with_reducible rfl
    try simp only [Act.put, List.setIfInBounds_toArray, List.set_cons_zero, List.set_cons_succ]
    refine wpAnyH_take (i := 20) (v := ?_) (by simp only [List.getElem?_toArray, List.getElem?_cons_succ, List.getElem?_cons_zero]; rfl) (by kernel_rfl) (by kernel_rfl) (by kernel_rfl) (fun _ _ _ h => h) (Or.inl ⟨by rfl, ?_⟩) (by assumption) ?_
    rotate_left
    · intro w hSw
      try dsimp only at hSw
      go_simp
      try with_reducible rfl
    try simp only [Act.put, List.setIfInBounds_toArray, List.set_cons_zero, List.set_cons_succ]
    refine wpAnyH_take (i := 21) (v := ?_) (by simp only [List.getElem?_toArray, List.getElem?_cons_succ, List.getElem?_cons_zero]; rfl) (by kernel_rfl) (by kernel_rfl) (by kernel_rfl) (fun _ _ _ h => h) (Or.inl ⟨by rfl, ?_⟩) (by assumption) ?_
    rotate_left
    · intro w hSw
      try dsimp only at hSw
      go_simp
      try with_reducible rfl
    try simp only [Act.put, List.setIfInBounds_toArray, List.set_cons_zero, List.set_cons_succ]
    refine wpAnyH_take (i := 23) (v := ?_) (by simp only [List.getElem?_toArray, List.getElem?_cons_succ, List.getElem?_cons_zero]; rfl) (by kernel_rfl) (by kernel_rfl) (by kernel_rfl) (fun _ _ _ h => h) (Or.inl ⟨by rfl, ?_⟩) (by assumption) ?_
    rotate_left
    · intro w hSw
      try dsimp only at hSw
      go_simp
      try with_reducible rfl
    try simp only [Act.put, List.setIfInBounds_toArray, List.set_cons_zero, List.set_cons_succ]
    refine wpAnyH_take (i := 24) (v := ?_) (by simp only [List.getElem?_toArray, List.getElem?_cons_succ, List.getElem?_cons_zero]; rfl) (by kernel_rfl) (by kernel_rfl) (by kernel_rfl) (fun _ _ _ h => h) (Or.inl ⟨by rfl, ?_⟩) (by assumption) ?_
    rotate_left
    · intro w hSw
      try dsimp only at hSw
      go_simp
      try with_reducible rfl
    try simp only [Act.put, List.setIfInBounds_toArray, List.set_cons_zero, List.set_cons_succ]
    refine wpAnyH_ready (rs := [22]) (by kernel_rfl) (by simp) ?_
    refine AllReadyH.cons (by simp only [List.getElem?_toArray, List.getElem?_cons_succ, List.getElem?_cons_zero]; rfl) (fun K hK => ?_) AllReadyH.nil
    go_simp
    refine (klast K26.out.re 3 rfl (by dsimp only; decide) nn HNB.out).mono ?_
    rintro e w27 ⟨v27, rfl, k⟩
    have S27 := Lib.hid (S26.out.kb k.bel)
    have K27 := Lib.hid (K26.out.frm k)
    clear k K26 S26
    go_wp2_with fail
    refine hK.out _ _ trivial (fun hHeld => ?_)
    clear hK K
    try simp only [Act.put, List.setIfInBounds_toArray, List.set_cons_zero, List.set_cons_succ]
    refine wpAnyH_ready (rs := [25]) (by kernel_rfl) (by simp) ?_
    refine AllReadyH.cons (by simp only [List.getElem?_toArray, List.getElem?_cons_succ, List.getElem?_cons_zero]; rfl) (fun K hK => ?_) AllReadyH.nil
    go_simp
    refine (kxlast K27.out.re 4 rfl (by dsimp only; decide) nn HNB.out).mono ?_
    rintro e w28 ⟨v28, rfl, k⟩
    have S28 := Lib.hid (S27.out.kb k.bel)
    have K28 := Lib.hid (K27.out.frm k)
    clear k K27 S27
    go_wp2_with fail
    refine hK.out _ _ trivial (fun hHeld => ?_)
    clear hK K
    try simp only [Act.put, List.setIfInBounds_toArray, List.set_cons_zero, List.set_cons_succ]
    refine wpAnyH_ready (rs := [26]) (by kernel_rfl) (by simp) ?_
    refine AllReadyH.cons (by simp only [List.getElem?_toArray, List.getElem?_cons_succ, List.getElem?_cons_zero]; rfl) (fun K hK => ?_) AllReadyH.nil
    go_simp
    refine (ksame K28.out.re 1 0 rfl rfl (by dsimp only; decide) rfl).mono ?_
    rintro e w29 ⟨rfl, k⟩
    have S29 := Lib.hid (S28.out.kb k.bel)
    have K29 := Lib.hid (K28.out.frm k)
    clear k K28 S28
    go_wp2_with fail
    refine hK.out _ _ trivial (fun hHeld => ?_)
    clear hK K
    try simp only [Act.put, List.setIfInBounds_toArray, List.set_cons_zero, List.set_cons_succ]
    refine wpAnyH_take (i := 27) (v := ?_) (by simp only [List.getElem?_toArray, List.getElem?_cons_succ, List.getElem?_cons_zero]; rfl) (by kernel_rfl) (by kernel_rfl) (by kernel_rfl) (fun _ _ _ h => h) (Or.inl ⟨by rfl, ?_⟩) (by assumption) ?_
    rotate_left
    · intro w hSw
      try dsimp only at hSw
      go_simp
      try with_reducible rfl
    try simp only [Act.put, List.setIfInBounds_toArray, List.set_cons_zero, List.set_cons_succ]
    refine wpAnyH_take (i := 28) (v := ?_) (by simp only [List.getElem?_toArray, List.getElem?_cons_succ, List.getElem?_cons_zero]; rfl) (by kernel_rfl) (by kernel_rfl) (by kernel_rfl) (fun _ _ _ h => h) (Or.inl ⟨by rfl, ?_⟩) (by assumption) ?_
    rotate_left
    · intro w hSw
      try dsimp only at hSw
      go_simp
      try with_reducible rfl
    try simp only [Act.put, List.setIfInBounds_toArray, List.set_cons_zero, List.set_cons_succ]
    refine wpAnyH_take (i := 29) (v := ?_) (by simp only [List.getElem?_toArray, List.getElem?_cons_succ, List.getElem?_cons_zero]; rfl) (by kernel_rfl) (by kernel_rfl) (by kernel_rfl) (fun _ _ _ h => h) (Or.inl ⟨by rfl, ?_⟩) (by assumption) ?_
    rotate_left
    · intro w hSw
      try dsimp only at hSw
      go_simp
      try with_reducible rfl
    try simp only [Act.put, List.setIfInBounds_toArray, List.set_cons_zero, List.set_cons_succ]
    refine wpAnyH_take (i := 30) (v := ?_) (by simp only [List.getElem?_toArray, List.getElem?_cons_succ, List.getElem?_cons_zero]; rfl) (by kernel_rfl) (by kernel_rfl) (by kernel_rfl) (fun _ _ _ h => h) (Or.inl ⟨by rfl, ?_⟩) (by assumption) ?_
    rotate_left
    · intro w hSw
      try dsimp only at hSw
      go_simp
      try with_reducible rfl
    try simp only [Act.put, List.setIfInBounds_toArray, List.set_cons_zero, List.set_cons_succ]
    refine wpAnyH_take (i := 32) (v := ?_) (by simp only [List.getElem?_toArray, List.getElem?_cons_succ, List.getElem?_cons_zero]; rfl) (by kernel_rfl) (by kernel_rfl) (by kernel_rfl) (fun _ _ _ h => h) (Or.inl ⟨by rfl, ?_⟩) (by assumption) ?_
    rotate_left
    · intro w hSw
      try dsimp only at hSw
      go_simp
      try with_reducible rfl
    try simp only [Act.put, List.setIfInBounds_toArray, List.set_cons_zero, List.set_cons_succ]
    refine wpAnyH_take (i := 33) (v := ?_) (by simp only [List.getElem?_toArray, List.getElem?_cons_succ, List.getElem?_cons_zero]; rfl) (by kernel_rfl) (by kernel_rfl) (by kernel_rfl) (fun _ _ _ h => h) (Or.inl ⟨by rfl, ?_⟩) (by assumption) ?_
    rotate_left
    · intro w hSw
      try dsimp only at hSw
      go_simp
      try with_reducible rfl
    try simp only [Act.put, List.setIfInBounds_toArray, List.set_cons_zero, List.set_cons_succ]
    refine wpAnyH_ready (rs := [31]) (by kernel_rfl) (by simp) ?_
    refine AllReadyH.cons (by simp only [List.getElem?_toArray, List.getElem?_cons_succ, List.getElem?_cons_zero]; rfl) (fun K hK => ?_) AllReadyH.nil
    go_simp
    refine (kskip K29.out.re 5 rfl (by dsimp only; decide) nn HNB.out).mono ?_
    rintro e w30 ⟨v30, rfl, k⟩
    have S30 := Lib.hid (S29.out.kb k.bel)
    have K30 := Lib.hid (K29.out.frm k)
    clear k K29 S29
    go_wp2_with fail
    refine hK.out _ _ trivial (fun hHeld => ?_)
    clear hK K
    try simp only [Act.put, List.setIfInBounds_toArray, List.set_cons_zero, List.set_cons_succ]
    refine wpAnyH_ready (rs := [34]) (by kernel_rfl) (by simp) ?_
    refine AllReadyH.cons (by simp only [List.getElem?_toArray, List.getElem?_cons_succ, List.getElem?_cons_zero]; rfl) (fun K hK => ?_) AllReadyH.nil
    go_simp
    refine (kxskip K30.out.re 6 rfl (by dsimp only; decide) nn HNB.out).mono ?_
    rintro e w31 ⟨v31, rfl, k⟩
    have S31 := Lib.hid (S30.out.kb k.bel)
    have K31 := Lib.hid (K30.out.frm k)
    clear k K30 S30
    go_wp2_with fail
    refine hK.out _ _ trivial (fun hHeld => ?_)
    clear hK K
    try simp only [Act.put, List.setIfInBounds_toArray, List.set_cons_zero, List.set_cons_succ]
    refine wpAnyH_ready (rs := [35]) (by kernel_rfl) (by simp) ?_
    refine AllReadyH.cons (by simp only [List.getElem?_toArray, List.getElem?_cons_succ, List.getElem?_cons_zero]; rfl) (fun K hK => ?_) AllReadyH.nil
    go_simp
    refine (ksame K31.out.re 1 0 rfl rfl (by dsimp only; decide) rfl).mono ?_
    rintro e w32 ⟨rfl, k⟩
    have S32 := Lib.hid (S31.out.kb k.bel)
    have K32 := Lib.hid (K31.out.frm k)
    clear k K31 S31
    go_wp2_with fail
    refine hK.out _ _ trivial (fun hHeld => ?_)
    clear hK K
    try simp only [Act.put, List.setIfInBounds_toArray, List.set_cons_zero, List.set_cons_succ]
    refine wpAnyH_take (i := 36) (v := ?_) (by simp only [List.getElem?_toArray, List.getElem?_cons_succ, List.getElem?_cons_zero]; rfl) (by kernel_rfl) (by kernel_rfl) (by kernel_rfl) (fun _ _ _ h => h) (Or.inl ⟨by rfl, ?_⟩) (by assumption) ?_
    rotate_left
    · intro w hSw
      try dsimp only at hSw
      go_simp
      try with_reducible rfl
    try simp only [Act.put, List.setIfInBounds_toArray, List.set_cons_zero, List.set_cons_succ]
    refine wpAnyH_take (i := 37) (v := ?_) (by simp only [List.getElem?_toArray, List.getElem?_cons_succ, List.getElem?_cons_zero]; rfl) (by kernel_rfl) (by kernel_rfl) (by kernel_rfl) (fun _ _ _ h => h) (Or.inl ⟨by rfl, ?_⟩) (by assumption) ?_
    rotate_left
    · intro w hSw
      try dsimp only at hSw
      go_simp
      try with_reducible rfl
    try simp only [Act.put, List.setIfInBounds_toArray, List.set_cons_zero, List.set_cons_succ]
    refine wpAnyH_take (i := 38) (v := ?_) (by simp only [List.getElem?_toArray, List.getElem?_cons_succ, List.getElem?_cons_zero]; rfl) (by kernel_rfl) (by kernel_rfl) (by kernel_rfl) (fun _ _ _ h => h) (Or.inl ⟨by rfl, ?_⟩) (by assumption) ?_
    rotate_left
    · intro w hSw
      try dsimp only at hSw
      go_simp
      try with_reducible rfl
    try simp only [Act.put, List.setIfInBounds_toArray, List.set_cons_zero, List.set_cons_succ]
    refine wpAnyH_take (i := 39) (v := ?_) (by simp only [List.getElem?_toArray, List.getElem?_cons_succ, List.getElem?_cons_zero]; rfl) (by kernel_rfl) (by kernel_rfl) (by kernel_rfl) (fun _ _ _ h => h) (Or.inl ⟨by rfl, ?_⟩) (by assumption) ?_
    rotate_left
    · intro w hSw
      try dsimp only at hSw
      go_simp
      try with_reducible rfl
    try simp only [Act.put, List.setIfInBounds_toArray, List.set_cons_zero, List.set_cons_succ]
    refine wpAnyH_take (i := 41) (v := ?_) (by simp only [List.getElem?_toArray, List.getElem?_cons_succ, List.getElem?_cons_zero]; rfl) (by kernel_rfl) (by kernel_rfl) (by kernel_rfl) (fun _ _ _ h => h) (Or.inl ⟨by rfl, ?_⟩) (by assumption) ?_
    rotate_left
    · intro w hSw
      try dsimp only at hSw
      go_simp
      try with_reducible rfl
    try simp only [Act.put, List.setIfInBounds_toArray, List.set_cons_zero, List.set_cons_succ]
    refine wpAnyH_take (i := 42) (v := ?_) (by simp only [List.getElem?_toArray, List.getElem?_cons_succ, List.getElem?_cons_zero]; rfl) (by kernel_rfl) (by kernel_rfl) (by kernel_rfl) (fun _ _ _ h => h) (Or.inl ⟨by rfl, ?_⟩) (by assumption) ?_
    rotate_left
    · intro w hSw
      try dsimp only at hSw
      go_simp
      try with_reducible rfl
    try simp only [Act.put, List.setIfInBounds_toArray, List.set_cons_zero, List.set_cons_succ]
    refine wpAnyH_ready (rs := [40]) (by kernel_rfl) (by simp) ?_
    refine AllReadyH.cons (by simp only [List.getElem?_toArray, List.getElem?_cons_succ, List.getElem?_cons_zero]; rfl) (fun K hK => ?_) AllReadyH.nil
    go_simp
    refine (kids K32.out.re 7 rfl (by dsimp only; decide) nn HNB.out HCF.out).mono ?_
    rintro e w33 ⟨vi, rfl, oi, k⟩
    dsimp only at oi
    have I33 := Lib.hid oi.seen
    clear oi
    have S33 := Lib.hid (S32.out.kb k.bel)
    have K33 := Lib.hid (K32.out.frm k)
    clear k K32 S32
    go_wp2_with fail
    refine hK.out _ _ trivial (fun hHeld => ?_)
    clear hK K
    try simp only [Act.put, List.setIfInBounds_toArray, List.set_cons_zero, List.set_cons_succ]
    refine wpAnyH_ready (rs := [43]) (by kernel_rfl) (by simp) ?_
    refine AllReadyH.cons (by simp only [List.getElem?_toArray, List.getElem?_cons_succ, List.getElem?_cons_zero]; rfl) (fun K hK => ?_) AllReadyH.nil
    go_simp
    refine (kxids K33.out.re 7 rfl (by dsimp only; decide) nn HNB.out HCF.out).mono ?_
    rintro e w34 ⟨vj, rfl, oj, k⟩
    dsimp only at oj
    have J34 := Lib.hid oj.seen
    have I34 := Lib.hid (I33.out.kb k.bel)
    clear oj I33
    have S34 := Lib.hid (S33.out.kb k.bel)
    have K34 := Lib.hid (K33.out.frm k)
    clear k K33 S33
    go_wp2_with fail
    refine hK.out _ _ trivial (fun hHeld => ?_)
    clear hK K
    try simp only [Act.put, List.setIfInBounds_toArray, List.set_cons_zero, List.set_cons_succ]
    refine wpAnyH_ready (rs := [44]) (by kernel_rfl) (by simp) ?_
    refine AllReadyH.cons (by simp only [List.getElem?_toArray, List.getElem?_cons_succ, List.getElem?_cons_zero]; rfl) (fun K hK => ?_) AllReadyH.nil
    go_simp
    refine (sameInts_to _ vi vj _ _ I34.out J34.out HLI.out).mono ?_
    rintro e w35 ⟨⟨r, rfl, hr⟩, bz⟩
    obtain rfl : r = true := hr.2 rfl
    clear hr
    have S35 := Lib.hid (S34.out.kb bz)
    have K35 := Lib.hid (K34.out.next bz)
    clear bz K34 S34 I34 J34
    go_wp2_with fail
    refine hK.out _ _ trivial (fun hHeld => ?_)
    clear hK K
    try simp only [Act.put, List.setIfInBounds_toArray, List.set_cons_zero, List.set_cons_succ]
    refine wpAnyH_take (i := 45) (v := ?_) (by simp only [List.getElem?_toArray, List.getElem?_cons_succ, List.getElem?_cons_zero]; rfl) (by kernel_rfl) (by kernel_rfl) (by kernel_rfl) (fun _ _ _ h => h) (Or.inl ⟨by rfl, ?_⟩) (by assumption) ?_
    rotate_left
    · intro w hSw
      try dsimp only at hSw
      go_simp
      try with_reducible rfl
    try simp only [Act.put, List.setIfInBounds_toArray, List.set_cons_zero, List.set_cons_succ]
    refine wpAnyH_take (i := 46) (v := ?_) (by simp only [List.getElem?_toArray, List.getElem?_cons_succ, List.getElem?_cons_zero]; rfl) (by kernel_rfl) (by kernel_rfl) (by kernel_rfl) (fun _ _ _ h => h) (Or.inl ⟨by rfl, ?_⟩) (by assumption) ?_
    rotate_left
    · intro w hSw
      try dsimp only at hSw
      go_simp
      try with_reducible rfl
    try simp only [Act.put, List.setIfInBounds_toArray, List.set_cons_zero, List.set_cons_succ]
    refine wpAnyH_take (i := 47) (v := ?_) (by simp only [List.getElem?_toArray, List.getElem?_cons_succ, List.getElem?_cons_zero]; rfl) (by kernel_rfl) (by kernel_rfl) (by kernel_rfl) (fun _ _ _ h => h) (Or.inl ⟨by rfl, ?_⟩) (by assumption) ?_
    rotate_left
    · intro w hSw
      try dsimp only at hSw
      go_simp
      try with_reducible rfl
    try simp only [Act.put, List.setIfInBounds_toArray, List.set_cons_zero, List.set_cons_succ]
    refine wpAnyH_take (i := 48) (v := ?_) (by simp only [List.getElem?_toArray, List.getElem?_cons_succ, List.getElem?_cons_zero]; rfl) (by kernel_rfl) (by kernel_rfl) (by kernel_rfl) (fun _ _ _ h => h) (Or.inl ⟨by rfl, ?_⟩) (by assumption) ?_
    rotate_left
    · intro w hSw
      try dsimp only at hSw
      go_simp
      try with_reducible rfl
    try simp only [Act.put, List.setIfInBounds_toArray, List.set_cons_zero, List.set_cons_succ]
    refine wpAnyH_take (i := 49) (v := ?_) (by simp only [List.getElem?_toArray, List.getElem?_cons_succ, List.getElem?_cons_zero]; rfl) (by kernel_rfl) (by kernel_rfl) (by kernel_rfl) (fun _ _ _ h => h) (Or.inl ⟨by rfl, ?_⟩) (by assumption) ?_
    rotate_left
    · intro w hSw
      try dsimp only at hSw
      go_simp
      try with_reducible rfl
    try simp only [Act.put, List.setIfInBounds_toArray, List.set_cons_zero, List.set_cons_succ]
    refine wpAnyH_take (i := 50) (v := (.int .i64 (m : Nat))) (by simp only [List.getElem?_toArray, List.getElem?_cons_succ, List.getElem?_cons_zero]; rfl) (by kernel_rfl) (by kernel_rfl) (by kernel_rfl) (fun _ _ _ h => h) (Or.inl ⟨by rfl, ?_⟩) (by assumption) ?_
    · intro w hSw
      try dsimp only at hSw
      go_simp
    try simp only [Act.put, List.setIfInBounds_toArray, List.set_cons_zero, List.set_cons_succ]
    refine wpAnyH_take (i := 51) (v := (.slice pa m ca)) (by simp only [List.getElem?_toArray, List.getElem?_cons_succ, List.getElem?_cons_zero]; rfl) (by kernel_rfl) (by kernel_rfl) (by kernel_rfl) (fun _ _ _ h => h) (Or.inl ⟨by rfl, ?_⟩) (by assumption) ?_
    · intro w hSw
      try dsimp only at hSw
      go_simp
    try simp only [Act.put, List.setIfInBounds_toArray, List.set_cons_zero, List.set_cons_succ]
    refine wpAnyH_take (i := 53) (v := ?_) (by simp only [List.getElem?_toArray, List.getElem?_cons_succ, List.getElem?_cons_zero]; rfl) (by kernel_rfl) (by kernel_rfl) (by kernel_rfl) (fun _ _ _ h => h) (Or.inl ⟨by rfl, ?_⟩) (by assumption) ?_
    rotate_left
    · intro w hSw
      try dsimp only at hSw
      go_simp
      try with_reducible rfl
    try simp only [Act.put, List.setIfInBounds_toArray, List.set_cons_zero, List.set_cons_succ]
    refine wpAnyH_take (i := 54) (v := ?_) (by simp only [List.getElem?_toArray, List.getElem?_cons_succ, List.getElem?_cons_zero]; rfl) (by kernel_rfl) (by kernel_rfl) (by kernel_rfl) (fun _ _ _ h => h) (Or.inl ⟨by rfl, ?_⟩) (by assumption) ?_
    rotate_left
    · intro w hSw
      try dsimp only at hSw
      go_simp
      try with_reducible rfl
    try simp only [Act.put, List.setIfInBounds_toArray, List.set_cons_zero, List.set_cons_succ]
    refine wpAnyH_take (i := 55) (v := ?_) (by simp only [List.getElem?_toArray, List.getElem?_cons_succ, List.getElem?_cons_zero]; rfl) (by kernel_rfl) (by kernel_rfl) (by kernel_rfl) (fun _ _ _ h => h) (Or.inl ⟨by rfl, ?_⟩) (by assumption) ?_
    rotate_left
    · intro w hSw
      try dsimp only at hSw
      go_simp
      try with_reducible rfl
    try simp only [Act.put, List.setIfInBounds_toArray, List.set_cons_zero, List.set_cons_succ]
    refine wpAnyH_take (i := 56) (v := (.int .i64 (m : Nat))) (by simp only [List.getElem?_toArray, List.getElem?_cons_succ, List.getElem?_cons_zero]; rfl) (by kernel_rfl) (by kernel_rfl) (by kernel_rfl) (fun _ _ _ h => h) (Or.inl ⟨by rfl, ?_⟩) (by assumption) ?_
    · intro w hSw
      try dsimp only at hSw
      go_simp
    try simp only [Act.put, List.setIfInBounds_toArray, List.set_cons_zero, List.set_cons_succ]
    refine wpAnyH_take (i := 57) (v := (.slice pa m ca)) (by simp only [List.getElem?_toArray, List.getElem?_cons_succ, List.getElem?_cons_zero]; rfl) (by kernel_rfl) (by kernel_rfl) (by kernel_rfl) (fun _ _ _ h => h) (Or.inl ⟨by rfl, ?_⟩) (by assumption) ?_
    · intro w hSw
      try dsimp only at hSw
      go_simp
    try simp only [Act.put, List.setIfInBounds_toArray, List.set_cons_zero, List.set_cons_succ]
    refine wpAnyH_ready (rs := [52]) (by kernel_rfl) (by simp) ?_
    refine AllReadyH.cons (by simp only [List.getElem?_toArray, List.getElem?_cons_succ, List.getElem?_cons_zero]; rfl) (fun K hK => ?_) AllReadyH.nil
    go_simp
    refine (of_to _ _ (la.take m) (S35.out.take HML.out) HLT.out HTT.out).mono ?_
    rintro e w36 ⟨v36, rfl, oo, bz⟩
    have S36 := Lib.hid (S35.out.kb bz)
    have Q36 := Lib.hid oo.seen
    have K36 := Lib.hid (K35.out.next bz)
    clear bz K35 S35 oo
    go_wp2_with fail
    refine hK.out _ _ trivial (fun hHeld => ?_)
    clear hK K
    try simp only [Act.put, List.setIfInBounds_toArray, List.set_cons_zero, List.set_cons_succ]
    refine wpAnyH_ready (rs := [58]) (by kernel_rfl) (by simp) ?_
    refine AllReadyH.cons (by simp only [List.getElem?_toArray, List.getElem?_cons_succ, List.getElem?_cons_zero]; rfl) (fun K hK => ?_) AllReadyH.nil
    go_simp
    refine (xof_to _ _ (la.take m) (S36.out.take HML.out) HLT2.out HTT.out).mono ?_
    rintro e w37 ⟨v37, rfl, oo, bz⟩
    have Q37 := Lib.hid (Q36.out.kb bz)
    have R37 := Lib.hid oo.seen
    have K37 := Lib.hid (K36.out.next bz)
    clear bz K36 S36 oo Q36
    go_wp2_with fail
    refine hK.out _ _ trivial (fun hHeld => ?_)
    clear hK K
    try simp only [Act.put, List.setIfInBounds_toArray, List.set_cons_zero, List.set_cons_succ]
    refine wpAnyH_ready (rs := [59]) (by kernel_rfl) (by simp) ?_
    refine AllReadyH.cons (by simp only [List.getElem?_toArray, List.getElem?_cons_succ, List.getElem?_cons_zero]; rfl) (fun K hK => ?_) AllReadyH.nil
    go_simp
    refine (sameSpans_to _ v36 v37 _ _ Q37.out R37.out HLO.out).mono ?_
    rintro e w38 ⟨⟨r, rfl, hr⟩, bz⟩
    obtain rfl : r = true := hr.2 rfl
    clear hr
    have K38 := Lib.hid (K37.out.next bz)
    clear bz K37 Q37 R37
    go_wp2_with fail
    refine hK.out _ _ trivial (fun hHeld => ?_)
    clear hK K
    try simp only [Act.put, List.setIfInBounds_toArray, List.set_cons_zero, List.set_cons_succ]
    refine wpAnyH_take (i := 60) (v := ?_) (by simp only [List.getElem?_toArray, List.getElem?_cons_succ, List.getElem?_cons_zero]; rfl) (by kernel_rfl) (by kernel_rfl) (by kernel_rfl) (fun _ _ _ h => h) (Or.inl ⟨by rfl, ?_⟩) (by assumption) ?_
    rotate_left
    · intro w hSw
      try dsimp only at hSw
      go_simp
      try with_reducible rfl
    try simp only [Act.put, List.setIfInBounds_toArray, List.set_cons_zero, List.set_cons_succ]
    refine wpAnyH_take (i := 61) (v := ?_) (by simp only [List.getElem?_toArray, List.getElem?_cons_succ, List.getElem?_cons_zero]; rfl) (by kernel_rfl) (by kernel_rfl) (by kernel_rfl) (fun _ _ _ h => h) (Or.inl ⟨by rfl, ?_⟩) (by assumption) ?_
    rotate_left
    · intro w hSw
      try dsimp only at hSw
      go_simp
      try with_reducible rfl
    try simp only [Act.put, List.setIfInBounds_toArray, List.set_cons_zero, List.set_cons_succ]
    refine wpAnyH_done (by kernel_rfl) ?_ _
    refine NoPanic.normal ?_
    go_wp2_with fail
    go_ret
    exact ⟨rfl, K38.out.bel⟩
end Go.Proofs.Ytpjfgkjhhmfhkaa
