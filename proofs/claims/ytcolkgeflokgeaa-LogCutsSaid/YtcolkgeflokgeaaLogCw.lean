/- LogCuts returns true and makes new memory alone. No condition but how its arguments read. -/
import Derived.Test.YtcolkgeflokgeaaLogV
import Derived.BigQuiet
import Derived.Deep.CutBlock
namespace Go.Proofs.Ytcolkgeflokgeaa
open Go.RowKit
open Go.Maps

theorem iinfo : (Try.prog.info? 3).map (fun i => (i.zero, i.size, i.bytes)) = some (some (.int .i64 0), 1, 8) := by kernel_rfl
structure C1 (w wr : World) (d l : Nat) (S : Nat → Prop) (s : St) (R : List Rc) (k : Nat) (v : Value) : Prop where
  cl : CL w wr w.heap.size d l S s [102] R
  one : OneF s (encs R) (k + 1)
  len : R.length = k
  small : ∀ r ∈ R, r.2.length ≤ 200
  kind : ∀ j (h : j < R.length), R[j].1 = 1 + (j : Int)
  row : RBes wr S w.heap.size 3 v (k + 1) (iss (lens R))
theorem C1.ends {w wr : World} {d l k : Nat} {S : Nat → Prop} {s : St} {R : List Rc} {v : Value} (h : C1 w wr d l S s R k v) : ends R ≤ 209 * k := by
  have := ends_le h.small
  rwa [h.len] at this
theorem int_fits {n : Nat} (h : n ≤ 20) : n + 1 ≤ maxLen ∧ (n + 1) * 8 ≤ 140737488355328 := by unfold maxLen; omega
theorem C1.cell {w wr : World} {d l k : Nat} {S : Nat → Prop} {s : St} {R : List Rc} {v : Value} (h : C1 w wr d l S s R k v) {j : Nat} (hj : j ≤ k) : ∃ g c, v = .slice (some ⟨g, 0, none⟩) (k + 1) c ∧ wr.cell? ⟨g, j, none⟩ = some (.int .i64 ((Go.Proofs.Ytcolkgeflokgeaa.ends (R.take j) : Nat) : Int)) := by
  obtain ⟨g, c, hv, _⟩ := h.row.own.form (by omega)
  refine ⟨g, c, hv, ?_⟩
  have h1 := h.row.own
  rw [hv] at h1
  have := h1.cells (g := g) rfl j _ (lens_at R (by rw [h.len]; exact hj))
  rwa [Addr.add_lit, Nat.zero_add] at this
theorem CL.drew {w W : World} {B d l : Nat} {S : Nat → Prop} {s : St} {nm : Key} {R : List Rc} (h : CL w W B d l S s nm R) : CL w W.drew B d l S s nm R := h.kb (W := W) ⟨rfl, rfl, rfl, Nat.le_refl _, fun _ _ => rfl⟩
set_option maxRecDepth 20000 in
set_option maxHeartbeats 8000000 in
theorem logCuts_walk (w : World) (p0 : Option Addr) (c0 : Nat) (E : List (List Int)) (hE : LSeen w p0 E) (okE : ∀ x ∈ E, Okb x) (cut : Int) (vm : Value) (mo : List Int) (hm : Seen w vm mo) (okm : Okb mo) :
    Calls Try.prog 4 #[.slice p0 E.length c0, .int .i64 cut, vm] w fun e w' => e = .returned (.bool true) ∧ Below w.heap.size w w' := by
  obtain ⟨i0, hi0, hz0, hz1, hz2⟩ := info_parts iinfo
  obtain ⟨n, hn⟩ : ∃ n, n = E.length := ⟨_, rfl⟩
  obtain ⟨m, hm0⟩ : ∃ m, m = min n 12 := ⟨_, rfl⟩
  have hmi : min (n : Int) 12 = (m : Int) := by omega
  have hm12 : m ≤ 12 := by omega
  have hmn : m ≤ n := by omega
  rw [← hn]
  have HN := Lib.hid hn
  have HE := Lib.hid hE
  have OKE := Lib.hid okE
  have HMO := Lib.hid hm
  have OKM := Lib.hid okm
  clear hn hE okE hm okm hm0
  go_enter Try.func4, Try.ntmps4
  go_wp2_with fail
  refine (new_to w 100000).mono ?_
  rintro e w1 ⟨d, S1, rfl, h1, b1, g1⟩
  have K1 : Hid (Cl w w1 w.heap.size d S1 (St.new 100000)) := Lib.hid ⟨h1, b1, g1⟩
  clear h1 b1 g1
  have hop := OneF.new.open0
  go_wp2_with fail
  refine (open_ok w1 _ d S1 _ [102] 0 K1.out.ds (by decide) (by decide) (by decide) (by rw [OneF.new.fb]; exact Okb.nil) (by rw [hop])).mono ?_
  rintro e w2 ⟨l, S2, rfl, h2, o2, s2⟩
  rw [hop] at h2
  have K2 : Hid (CL w w2 w.heap.size d l S2 (St.new 100000) [102] []) := Lib.hid (K1.out.opened h2 o2 s2)
  clear h2 o2 s2 K1 hop
  go_wp2_with fail
  refine (known7_to w2).mono ?_
  rintro e w3 ⟨rfl, b3⟩
  have H0 : Hid (C1 w (w3.alloc (.cells #[.int .i64 0] 3)) d l S2 (St.new 100000) [] 0 (.slice (some ⟨w3.heap.size, 0, none⟩) 1 1)) := Lib.hid (by
    have k3 := K2.out.kb b3
    refine ⟨k3.kb ((Below.refl _ w3).alloc (Nat.le_refl _) _), OneF.new.mono (by omega), rfl, fun r hr => by simp at hr, fun j hj => by simp at hj, ⟨World.ownsRow_lit w3 #[.int .i64 0] 1 k3.bel.size (by decide) rfl, fun j hj hs => ?_⟩⟩
    simp only [Value.ownBlock, Option.some.injEq] at hj
    subst hj
    exact absurd (k3.dl.lt _ hs) (Nat.lt_irrefl _))
  clear b3 K2
  go_wp2_with fail
  generalize w3.alloc (.cells #[.int .i64 0] 3) = w4 at *
  clear hmi
  go_loopw [10, 12] (fun v i wr => ∃ (k : Nat) (S : Nat → Prop) (s : St) (R : List Rc), k ≤ m ∧ i = .int .i64 k ∧ Hid (C1 w wr d l S s R k v)) (fun _ i _ => m - (intOf i).toNat)
  case atStart => exact ⟨0, S2, _, [], Nat.zero_le _, rfl, H0⟩
  case round =>
    obtain ⟨k, S, s, R, hk, rfl, HR⟩ := hrel
    clear H0
    by_cases hlt : k < m
    · have hk' : (k : Int) < m := by omega
      have hk0 : 0 ≤ (k : Int) := by omega
      have hkn : k < n := by omega
      have hkn' : (k : Int) < n := by omega
      obtain ⟨x, hx⟩ : ∃ x, E[k]? = some x := ⟨E[k]'(by rw [← HN.out]; exact hkn), List.getElem?_eq_getElem _⟩
      obtain ⟨a, q0, cq, rfl, hcx, hsx⟩ := HE.out k x hx
      have HXO : Hid (Okb x) := Lib.hid (OKE.out x (List.mem_of_getElem? hx))
      have HSX := Lib.hid hsx
      have hcell := fun (W : World) (h : Below w.heap.size w W) => h.cell (p := a.add k) (World.block_lt_of_cell? w _ hcx) |>.trans hcx
      have HCX := Lib.hid hcell
      obtain ⟨gl, cl, rfl, hlen⟩ := HR.out.cell (Nat.le_refl k)
      have htk : R.take k = R := List.take_of_length_le (by rw [HR.out.len]; exact Nat.le_refl _)
      rw [htk] at hlen
      obtain ⟨en, hen⟩ : ∃ en, en = ends R := ⟨_, rfl⟩
      have HEN := Lib.hid hen
      rw [← hen] at hlen
      have hen1 : en ≤ 2508 := by have := HR.out.ends; omega
      obtain ⟨yl, hyl⟩ : ∃ yl, yl = min x.length 200 := ⟨_, rfl⟩
      have HYL1 : Hid (min (x.length : Int) 200 = (yl : Int)) := Lib.hid (by omega)
      have hyl2 : yl ≤ 200 := by omega
      obtain ⟨z, hz⟩ : ∃ z, z = en + (9 + yl) := ⟨_, rfl⟩
      have hz1' : (en : Int) + 9 + (yl : Int) = (z : Int) := by omega
      have hw1 : IntKind.i64.wrap ((en : Int) + 9) = (en : Int) + 9 := IntWalk.i64_in _ (by omega)
      have hw2 : IntKind.i64.wrap ((en : Int) + 9 + (yl : Int)) = (z : Int) := by rw [hz1']; exact IntWalk.i64_in _ (by omega)
      have hzz : ((z : Int) != (z : Int)) = false := by simp
      obtain ⟨kk, hkk⟩ : ∃ kk : Nat, kk = 1 + k := ⟨_, rfl⟩
      have hk1 : 1 + (k : Int) = (kk : Int) := by omega
      have HKK := Lib.hid hkk
      have hkk1 : kk ≤ 12 := by omega
      have hkkw : IntKind.i64.wrap (kk : Int) = (kk : Int) := IntWalk.i64_in _ (by omega)
      clear hkk
      have hks : (k : Int) < (k : Int) + 1 := by omega
      have HYL := Lib.hid hyl
      have HZ := Lib.hid hz
      have hc0 := HCX.out wr HR.out.cl.bel
      have HF := Lib.hid (few_nb wr.drew (.slice q0 x.length cq) x 200 (by decide) ((HSX.out.kb HR.out.cl.bel).kept fun _ _ => rfl))
      clear hx hcx hsx hcell hyl hz hen htk hz1'
      go_wp2_with fail
      try simp only [List.append]
      refine wp_region_noPanic ?_
      refine wp_region_held_drew (S := (fun W => W.cell? (a.add k) = some (.slice q0 x.length cq) ∧ W.cell? ⟨gl, k, none⟩ = some (.int .i64 en))) (by kernel_rfl) ⟨hc0, hlen⟩ (fun hHeld => ?_)
      refine wpAnyH_take (i := 0) (v := ?_) (by simp only [List.getElem?_toArray, List.getElem?_cons_zero]; rfl) (by kernel_rfl) (by kernel_rfl) (by kernel_rfl) (fun _ _ _ h => h) (Or.inl ⟨by rfl, ?_⟩) (by assumption) ?_
      rotate_left
      · intro w hSw
        try dsimp only at hSw
        go_simp
        try with_reducible rfl
      try simp only [Act.put, List.setIfInBounds_toArray, List.set_cons_zero, List.set_cons_succ]
      refine wpAnyH_take (i := 1) (v := ?_) (by simp only [List.getElem?_toArray, List.getElem?_cons_succ, List.getElem?_cons_zero]; rfl) (by kernel_rfl) (by kernel_rfl) (by kernel_rfl) (fun _ _ _ h => h) (Or.inl ⟨by rfl, ?_⟩) (by assumption) ?_
      rotate_left
      · intro w hSw
        try dsimp only at hSw
        go_simp
        try with_reducible rfl
      try simp only [Act.put, List.setIfInBounds_toArray, List.set_cons_zero, List.set_cons_succ]
      refine wpAnyH_take (i := 2) (v := ?_) (by simp only [List.getElem?_toArray, List.getElem?_cons_succ, List.getElem?_cons_zero]; rfl) (by kernel_rfl) (by kernel_rfl) (by kernel_rfl) (fun _ _ _ h => h) (Or.inl ⟨by rfl, ?_⟩) (by assumption) ?_
      rotate_left
      · intro w hSw
        try dsimp only at hSw
        go_simp
        try with_reducible rfl
      try simp only [Act.put, List.setIfInBounds_toArray, List.set_cons_zero, List.set_cons_succ]
      refine wpAnyH_take (i := 3) (v := ?_) (by simp only [List.getElem?_toArray, List.getElem?_cons_succ, List.getElem?_cons_zero]; rfl) (by kernel_rfl) (by kernel_rfl) (by kernel_rfl) (fun _ _ _ h => h) (Or.inl ⟨by rfl, ?_⟩) (by assumption) ?_
      rotate_left
      · intro w hSw
        try dsimp only at hSw
        go_simp
        try with_reducible rfl
      try simp only [Act.put, List.setIfInBounds_toArray, List.set_cons_zero, List.set_cons_succ]
      refine wpAnyH_take (i := 4) (v := ?_) (by simp only [List.getElem?_toArray, List.getElem?_cons_succ, List.getElem?_cons_zero]; rfl) (by kernel_rfl) (by kernel_rfl) (by kernel_rfl) (fun _ _ _ h => h) (Or.inl ⟨by rfl, ?_⟩) (by assumption) ?_
      rotate_left
      · intro w hSw
        try dsimp only at hSw
        go_simp
        try with_reducible rfl
      try simp only [Act.put, List.setIfInBounds_toArray, List.set_cons_zero, List.set_cons_succ]
      refine wpAnyH_take (i := 5) (v := ?_) (by simp only [List.getElem?_toArray, List.getElem?_cons_succ, List.getElem?_cons_zero]; rfl) (by kernel_rfl) (by kernel_rfl) (by kernel_rfl) (fun _ _ _ h => h) (Or.inl ⟨by rfl, ?_⟩) (by assumption) ?_
      rotate_left
      · intro w hSw
        try dsimp only at hSw
        go_simp
        try with_reducible rfl
      try simp only [Act.put, List.setIfInBounds_toArray, List.set_cons_zero, List.set_cons_succ]
      refine wpAnyH_take (i := 6) (v := ?_) (by simp only [List.getElem?_toArray, List.getElem?_cons_succ, List.getElem?_cons_zero]; rfl) (by kernel_rfl) (by kernel_rfl) (by kernel_rfl) (fun _ _ _ h => h) (Or.inl ⟨by rfl, ?_⟩) (by assumption) ?_
      rotate_left
      · intro w hSw
        try dsimp only at hSw
        go_simp
        try with_reducible rfl
      try simp only [Act.put, List.setIfInBounds_toArray, List.set_cons_zero, List.set_cons_succ]
      refine wpAnyH_ready (rs := [7]) (by kernel_rfl) (by simp) ?_
      refine AllReadyH.cons (by simp only [List.getElem?_toArray, List.getElem?_cons_succ, List.getElem?_cons_zero]; rfl) (fun K hK => ?_) AllReadyH.nil
      go_simp
      refine HF.out.mono ?_
      rintro e w5 ⟨ga, ca, rfl, o5, b5⟩
      obtain ⟨y, hy⟩ : ∃ y, y = x.take 200 := ⟨_, rfl⟩
      have HYT : Hid (y.length = yl) := Lib.hid (by rw [hy, List.length_take, HYL.out]; omega)
      have HRK : Hid (Rok ((kk : Int), y)) := Lib.hid ⟨by have := HKK.out; show (1 : Int) ≤ kk; omega, by show (kk : Int) ≤ 255; omega, by have := HYT.out; show y.length ≤ 1048576; omega, by rw [hy]; exact HXO.out.take 200⟩
      rw [← hy] at o5 ⊢
      have K5 := Lib.hid (HR.out.cl.drew.kb b5)
      have I5 := Lib.hid (RBes.kb (W := wr.drew) ⟨HR.out.row.own.drew, HR.out.row.out⟩ b5)
      have hlt5 := HR.out.cl.dl.lt
      have BY5 : Hid (Beside w5 S wr.heap.size (.slice (some ⟨ga, 0, none⟩) y.length ca) y) := Lib.hid ⟨o5, fun j hj hs => by have h1 := (o5.lt j hj).1; have h2 := hlt5 j hs; simp at h1; omega⟩
      have q5 : w5.cell? (a.add k) = some (.slice q0 x.length cq) ∧ w5.cell? ⟨gl, k, none⟩ = some (.int .i64 en) := ⟨HCX.out w5 K5.out.bel, lcell_kb (w := wr.drew) hlen b5⟩
      clear o5 b5 hy HF hlt5
      go_wp2_with fail
      refine hK.out _ _ q5 (fun hHeld => ?_)
      clear hK K
      try simp only [Act.put, List.setIfInBounds_toArray, List.set_cons_zero, List.set_cons_succ]
      have HAD := Lib.hid (HR.out.one.added (R := R) HRK.out (by rw [← HEN.out]; show _ + (9 + y.length) ≤ 100000; have := HYT.out; omega))
      refine wpAnyH_ready (rs := [8]) (by kernel_rfl) (by simp) ?_
      refine AllReadyH.cons (by simp only [List.getElem?_toArray, List.getElem?_cons_succ, List.getElem?_cons_zero]; rfl) (fun K hK => ?_) AllReadyH.nil
      go_simp
      refine (add_to w5 _ d l S s [102] R kk _ y K5.out.dl (Nat.le_trans HR.out.one.works (by omega)) (by rw [HR.out.one.fuse]; decide) (by decide) HRK.out.2.2.2 (Seen.own BY5.out.own) BY5.out.out (by have := HYT.out; omega) (by rw [← HEN.out]; omega)).mono ?_
      rintro e w6 ⟨rfl, S6, h6, o6, s6⟩
      rw [HAD.out.1, show enoOf 0 = .nilIface from rfl]
      rw [HAD.out.2.1] at h6
      have K6 := Lib.hid (K5.out.step h6 o6 s6)
      have I6 := Lib.hid (I5.out.step o6 s6)
      have q6 : w6.cell? (a.add k) = some (.slice q0 x.length cq) ∧ w6.cell? ⟨gl, k, none⟩ = some (.int .i64 en) := ⟨HCX.out w6 K6.out.bel, by
        have := I6.out.own.cells (g := gl) rfl k _ (by rw [lens_at R (by rw [HR.out.len]; exact Nat.le_refl _), List.take_of_length_le (by rw [HR.out.len]; exact Nat.le_refl _), ← HEN.out])
        rwa [Addr.add_lit, Nat.zero_add] at this⟩
      have HLE := Lib.hid (len_dl w6 _ d l S6 _ [102] _ K6.out.dl)
      have HZE : Hid (ends (R ++ [((kk : Int), y)]) = z) := Lib.hid (by rw [ends_snoc, ← HEN.out, HYT.out, HZ.out])
      rw [HZE.out] at HLE
      clear h6 o6 s6 K5 I5
      go_wp2_with fail
      refine hK.out _ _ q6 (fun hHeld => ?_)
      clear hK K
      try simp only [Act.put, List.setIfInBounds_toArray, List.set_cons_zero, List.set_cons_succ]
      have hyl1 := HYL1.out
      refine wpAnyH_take (i := 9) (v := ?_) (by simp only [List.getElem?_toArray, List.getElem?_cons_succ, List.getElem?_cons_zero]; rfl) (by kernel_rfl) (by kernel_rfl) (by kernel_rfl) (fun _ _ _ h => h) (Or.inl ⟨by rfl, ?_⟩) (by assumption) ?_
      rotate_left
      · intro w hSw
        try dsimp only at hSw
        go_simp
        try with_reducible rfl
      try simp only [Act.put, List.setIfInBounds_toArray, List.set_cons_zero, List.set_cons_succ]
      refine wpAnyH_take (i := 10) (v := ?_) (by simp only [List.getElem?_toArray, List.getElem?_cons_succ, List.getElem?_cons_zero]; rfl) (by kernel_rfl) (by kernel_rfl) (by kernel_rfl) (fun _ _ _ h => h) (Or.inl ⟨by rfl, ?_⟩) (by assumption) ?_
      rotate_left
      · intro w hSw
        try dsimp only at hSw
        go_simp
        try with_reducible rfl
      try simp only [Act.put, List.setIfInBounds_toArray, List.set_cons_zero, List.set_cons_succ]
      refine wpAnyH_take (i := 11) (v := ?_) (by simp only [List.getElem?_toArray, List.getElem?_cons_succ, List.getElem?_cons_zero]; rfl) (by kernel_rfl) (by kernel_rfl) (by kernel_rfl) (fun _ _ _ h => h) (Or.inl ⟨by rfl, ?_⟩) (by assumption) ?_
      rotate_left
      · intro w hSw
        try dsimp only at hSw
        go_simp
        try with_reducible rfl
      try simp only [Act.put, List.setIfInBounds_toArray, List.set_cons_zero, List.set_cons_succ]
      refine wpAnyH_take (i := 13) (v := ?_) (by simp only [List.getElem?_toArray, List.getElem?_cons_succ, List.getElem?_cons_zero]; rfl) (by kernel_rfl) (by kernel_rfl) (by kernel_rfl) (fun _ _ _ h => h) (Or.inl ⟨by rfl, ?_⟩) (by assumption) ?_
      rotate_left
      · intro w hSw
        try dsimp only at hSw
        go_simp
        try with_reducible rfl
      try simp only [Act.put, List.setIfInBounds_toArray, List.set_cons_zero, List.set_cons_succ]
      refine wpAnyH_take (i := 14) (v := ?_) (by simp only [List.getElem?_toArray, List.getElem?_cons_succ, List.getElem?_cons_zero]; rfl) (by kernel_rfl) (by kernel_rfl) (by kernel_rfl) (fun _ _ _ h => h) (Or.inl ⟨by rfl, ?_⟩) (by assumption) ?_
      rotate_left
      · intro w hSw
        try dsimp only at hSw
        go_simp
        try with_reducible rfl
      try simp only [Act.put, List.setIfInBounds_toArray, List.set_cons_zero, List.set_cons_succ]
      refine wpAnyH_take (i := 15) (v := ?_) (by simp only [List.getElem?_toArray, List.getElem?_cons_succ, List.getElem?_cons_zero]; rfl) (by kernel_rfl) (by kernel_rfl) (by kernel_rfl) (fun _ _ _ h => h) (Or.inl ⟨by rfl, ?_⟩) (by assumption) ?_
      rotate_left
      · intro w hSw
        try dsimp only at hSw
        go_simp
        try with_reducible rfl
      try simp only [Act.put, List.setIfInBounds_toArray, List.set_cons_zero, List.set_cons_succ]
      refine wpAnyH_take (i := 16) (v := ?_) (by simp only [List.getElem?_toArray, List.getElem?_cons_succ, List.getElem?_cons_zero]; rfl) (by kernel_rfl) (by kernel_rfl) (by kernel_rfl) (fun _ _ _ h => h) (Or.inl ⟨by rfl, ?_⟩) (by assumption) ?_
      rotate_left
      · intro w hSw
        try dsimp only at hSw
        go_simp
        try with_reducible rfl
      try simp only [Act.put, List.setIfInBounds_toArray, List.set_cons_zero, List.set_cons_succ]
      refine wpAnyH_take (i := 17) (v := ?_) (by simp only [List.getElem?_toArray, List.getElem?_cons_succ, List.getElem?_cons_zero]; rfl) (by kernel_rfl) (by kernel_rfl) (by kernel_rfl) (fun _ _ _ h => h) (Or.inl ⟨by rfl, ?_⟩) (by assumption) ?_
      rotate_left
      · intro w hSw
        try dsimp only at hSw
        go_simp
        try with_reducible rfl
      try simp only [Act.put, List.setIfInBounds_toArray, List.set_cons_zero, List.set_cons_succ]
      refine wpAnyH_take (i := 18) (v := ?_) (by simp only [List.getElem?_toArray, List.getElem?_cons_succ, List.getElem?_cons_zero]; rfl) (by kernel_rfl) (by kernel_rfl) (by kernel_rfl) (fun _ _ _ h => h) (Or.inl ⟨by rfl, ?_⟩) (by assumption) ?_
      rotate_left
      · intro w hSw
        try dsimp only at hSw
        go_simp
        try with_reducible rfl
      try simp only [Act.put, List.setIfInBounds_toArray, List.set_cons_zero, List.set_cons_succ]
      refine wpAnyH_take (i := 19) (v := ?_) (by simp only [List.getElem?_toArray, List.getElem?_cons_succ, List.getElem?_cons_zero]; rfl) (by kernel_rfl) (by kernel_rfl) (by kernel_rfl) (fun _ _ _ h => h) (Or.inl ⟨by rfl, ?_⟩) (by assumption) ?_
      rotate_left
      · intro w hSw
        try dsimp only at hSw
        go_simp
        try with_reducible rfl
      try simp only [Act.put, List.setIfInBounds_toArray, List.set_cons_zero, List.set_cons_succ]
      refine wpAnyH_take (i := 20) (v := ?_) (by simp only [List.getElem?_toArray, List.getElem?_cons_succ, List.getElem?_cons_zero]; rfl) (by kernel_rfl) (by kernel_rfl) (by kernel_rfl) (fun _ _ _ h => h) (Or.inl ⟨by rfl, ?_⟩) (by assumption) ?_
      rotate_left
      · intro w hSw
        try dsimp only at hSw
        go_simp
        try with_reducible rfl
      try simp only [Act.put, List.setIfInBounds_toArray, List.set_cons_zero, List.set_cons_succ]
      refine wpAnyH_take (i := 21) (v := ?_) (by simp only [List.getElem?_toArray, List.getElem?_cons_succ, List.getElem?_cons_zero]; rfl) (by kernel_rfl) (by kernel_rfl) (by kernel_rfl) (fun _ _ _ h => h) (Or.inl ⟨by rfl, ?_⟩) (by assumption) ?_
      rotate_left
      · intro w hSw
        try dsimp only at hSw
        go_simp
        try with_reducible rfl
      try simp only [Act.put, List.setIfInBounds_toArray, List.set_cons_zero, List.set_cons_succ]
      refine wpAnyH_take (i := 22) (v := ?_) (by simp only [List.getElem?_toArray, List.getElem?_cons_succ, List.getElem?_cons_zero]; rfl) (by kernel_rfl) (by kernel_rfl) (by kernel_rfl) (fun _ _ _ h => h) (Or.inl ⟨by rfl, ?_⟩) (by assumption) ?_
      rotate_left
      · intro w hSw
        try dsimp only at hSw
        go_simp
        try with_reducible rfl
      try simp only [Act.put, List.setIfInBounds_toArray, List.set_cons_zero, List.set_cons_succ]
      refine wpAnyH_take (i := 23) (v := ?_) (by simp only [List.getElem?_toArray, List.getElem?_cons_succ, List.getElem?_cons_zero]; rfl) (by kernel_rfl) (by kernel_rfl) (by kernel_rfl) (fun _ _ _ h => h) (Or.inl ⟨by rfl, ?_⟩) (by assumption) ?_
      rotate_left
      · intro w hSw
        try dsimp only at hSw
        go_simp
        try with_reducible rfl
      try simp only [Act.put, List.setIfInBounds_toArray, List.set_cons_zero, List.set_cons_succ]
      refine wpAnyH_take (i := 24) (v := ?_) (by simp only [List.getElem?_toArray, List.getElem?_cons_succ, List.getElem?_cons_zero]; rfl) (by kernel_rfl) (by kernel_rfl) (by kernel_rfl) (fun _ _ _ h => h) (Or.inl ⟨by rfl, ?_⟩) (by assumption) ?_
      rotate_left
      · intro w hSw
        try dsimp only at hSw
        go_simp
        try with_reducible rfl
      try simp only [Act.put, List.setIfInBounds_toArray, List.set_cons_zero, List.set_cons_succ]
      refine wpAnyH_ready (rs := [12]) (by kernel_rfl) (by simp) ?_
      refine AllReadyH.cons (by simp only [List.getElem?_toArray, List.getElem?_cons_succ, List.getElem?_cons_zero]; rfl) (fun K hK => ?_) AllReadyH.nil
      go_simp
      refine HLE.out.mono ?_
      rintro e w7 ⟨rfl, rfl⟩
      go_wp2_with fail
      refine hK.out _ _ q6 (fun hHeld => ?_)
      clear hK K
      try simp only [Act.put, List.setIfInBounds_toArray, List.set_cons_zero, List.set_cons_succ]
      refine wpAnyH_take (i := 25) (v := ?_) (by simp only [List.getElem?_toArray, List.getElem?_cons_succ, List.getElem?_cons_zero]; rfl) (by kernel_rfl) (by kernel_rfl) (by kernel_rfl) (fun _ _ _ h => h) (Or.inl ⟨by rfl, ?_⟩) (by assumption) ?_
      rotate_left
      · intro w hSw
        try dsimp only at hSw
        go_simp
        try with_reducible rfl
      try simp only [Act.put, List.setIfInBounds_toArray, List.set_cons_zero, List.set_cons_succ]
      refine wpAnyH_take (i := 26) (v := ?_) (by simp only [List.getElem?_toArray, List.getElem?_cons_succ, List.getElem?_cons_zero]; rfl) (by kernel_rfl) (by kernel_rfl) (by kernel_rfl) (fun _ _ _ h => h) (Or.inl ⟨by rfl, ?_⟩) (by assumption) ?_
      rotate_left
      · intro w hSw
        try dsimp only at hSw
        go_simp
        try with_reducible rfl
      try simp only [Act.put, List.setIfInBounds_toArray, List.set_cons_zero, List.set_cons_succ]
      refine wpAnyH_done (by kernel_rfl) ?_ _
      refine NoPanic.normal ?_
      have HB7 : Hid (∀ j u, [Value.int .i64 (z : Int)][j]? = some u → (w6.alloc (.cells #[.int .i64 (z : Int)] 3)).cell? ((⟨w6.heap.size, 0, none⟩ : Addr).add j) = some u) := Lib.hid (World.news_of_block (cs := #[.int .i64 (z : Int)]) (t := 3) (fr := (0, 0)) (heap_alloc_new w6 _))
      have HFT := Lib.hid (int_fits (n := k + 1) (by omega))
      have HBB : Hid (w.heap.size ≤ w6.heap.size) := Lib.hid K6.out.bel.size
      have HIO : Hid (w6.ownsRow w.heap.size 3 1 (.slice (some ⟨gl, 0, none⟩) (k + 1) cl) (k + 1) (iss (lens R))) := Lib.hid I6.out.own
      clear q5 q6 hyl1 hlen hc0
      go_wp2_with (first
        | (refine HLE.out.mono ?_; rintro e w' ⟨rfl, rfl⟩)
        | (at_builtin; refine wpList_append_lies _ (by rfl) _ _ _ (by rfl) w.heap.size 3 i0 _ 1 8 Try.underlying41 hi0 hz0 hz1 hz2 rfl (by omega) (.slice (some ⟨gl, 0, none⟩) (k + 1) cl) (k + 1) _ (by rfl) (HIO.out.alloc _) ⟨w6.heap.size, 0, none⟩ 1 1 [Value.int .i64 (z : Int)] (by rfl) (by rfl) HB7.out (by simp [Value.oneCell']) (by decide) HFT.out.1 HFT.out.2 (Nat.le_trans HBB.out (by simp)) (w6.heap.size + 1) (by simp) ?_; intro gg cap7 w7 own7 grow7 hat7 hlt7; have O7 := Lib.hid own7; have G7 : Hid (Only (fun k => (Value.slice (some ⟨gl, 0, none⟩) (k + 1) cl).ownBlock = some k) w6 w7) := Lib.hid (((Only.refl _ w6).alloc _).grown grow7 (fun k _ e => e)); have A7 := Lib.hid hat7; clear own7 grow7 hat7 hlt7))
      refine ⟨⟨k + 1, S6, (addS s [102] R kk y).2.1, R ++ [((kk : Int), y)], by omega, by go_num, Lib.hid ⟨?_, HAD.out.2.2.1, ?_, ?_, ?_, ?_⟩⟩, by simp [intOf]; omega⟩
      · exact ⟨K6.out.dl.kept G7.out (fun j hj e => I6.out.out j e hj), K6.out.bel.trans (G7.out.below HBB.out (fun j e => (I6.out.own.lt j e).1)), K6.out.ge⟩
      · rw [List.length_append, HR.out.len]; rfl
      · intro r hr
        rcases List.mem_append.1 hr with hr | hr
        · exact HR.out.small r hr
        · rw [List.mem_singleton.1 hr]; show y.length ≤ 200; rw [HYT.out]; exact hyl2
      · intro j hj
        by_cases hjR : j < R.length
        · rw [List.getElem_append_left hjR]; exact HR.out.kind j hjR
        · have hje : j = R.length := by rw [List.length_append, List.length_singleton] at hj; omega
          subst hje
          rw [List.getElem_append_right (Nat.le_refl _)]
          simp only [Nat.sub_self, List.getElem_cons_zero]
          rw [HR.out.len, HKK.out]; omega
      · refine ⟨by rw [lens_snoc, iss_snoc, HZE.out]; exact O7.out, fun j hj hs => ?_⟩
        simp only [Value.ownBlock, Option.some.injEq] at hj
        subst hj
        rcases A7.out with e | e
        · exact I6.out.out _ e hs
        · have := K6.out.dl.lt _ hs
          omega
    · obtain rfl : k = m := by omega
      have hk' : ¬ (k : Int) < k := by omega
      obtain ⟨r, hr, hrm⟩ : ∃ r : Nat, cut % ((k : Int) + 1) = (r : Int) ∧ r ≤ k := by
        have h1 := Int.emod_lt_of_pos cut (show (0 : Int) < (k : Int) + 1 by omega)
        have h2 := Int.emod_nonneg cut (show (k : Int) + 1 ≠ 0 by omega)
        exact ⟨(cut % ((k : Int) + 1)).toNat, by omega, by omega⟩
      obtain ⟨gl, cl, rfl, hlen⟩ := HR.out.cell hrm
      have HPK := Lib.hid (pick_to wr cut ((k : Int) + 1) r (by omega) (by omega) hr)
      obtain ⟨en, hen⟩ : ∃ en, en = ends (R.take r) := ⟨_, rfl⟩
      have HEN := Lib.hid hen
      rw [← hen] at hlen
      have hrR : r ≤ R.length := by rw [HR.out.len]; exact hrm
      have HRL : Hid ((R.take r).length = r) := Lib.hid (by rw [List.length_take]; omega)
      have hcu := HR.out.one.cut r hrR
      rw [← hen] at hcu
      have HCU := Lib.hid hcu
      have hen1 : en ≤ 2508 := by have h1 := HR.out.ends; have h2 := ends_take_le R r; omega
      have hr0 : 0 ≤ (r : Int) := by omega
      have hr1 : (r : Int) < (k : Int) + 1 := by omega
      have hrw : IntKind.i64.wrap (r : Int) = (r : Int) := IntWalk.i64_in _ (by omega)
      have hee : ((en : Int) != (en : Int)) = false := by simp
      have hrr : ((r : Int) != (r : Int)) = false := by simp
      clear hen hcu hlt hr
      go_wp2_with (refine HPK.out.mono ?_; rintro e w' ⟨rfl, rfl⟩)
      have HCT := Lib.hid (cut_to wr.drew _ d l S s [102] R en HR.out.cl.drew.dl (Nat.le_trans HR.out.one.works (by omega)) (by rw [HR.out.one.fuse]; decide) (by decide))
      clear HPK
      try simp only [List.append]
      refine wp_region_noPanic ?_
      refine wp_region_held_drew (S := (fun W => W.cell? ⟨gl, r, none⟩ = some (.int .i64 en))) (by kernel_rfl) hlen (fun hHeld => ?_)
      refine wpAnyH_take (i := 0) (v := ?_) (by simp only [List.getElem?_toArray, List.getElem?_cons_zero]; rfl) (by kernel_rfl) (by kernel_rfl) (by kernel_rfl) (fun _ _ _ h => h) (Or.inl ⟨by rfl, ?_⟩) (by assumption) ?_
      rotate_left
      · intro w hSw
        try dsimp only at hSw
        go_simp
        try with_reducible rfl
      try simp only [Act.put, List.setIfInBounds_toArray, List.set_cons_zero, List.set_cons_succ]
      refine wpAnyH_take (i := 1) (v := ?_) (by simp only [List.getElem?_toArray, List.getElem?_cons_succ, List.getElem?_cons_zero]; rfl) (by kernel_rfl) (by kernel_rfl) (by kernel_rfl) (fun _ _ _ h => h) (Or.inl ⟨by rfl, ?_⟩) (by assumption) ?_
      rotate_left
      · intro w hSw
        try dsimp only at hSw
        go_simp
        try with_reducible rfl
      try simp only [Act.put, List.setIfInBounds_toArray, List.set_cons_zero, List.set_cons_succ]
      refine wpAnyH_take (i := 2) (v := ?_) (by simp only [List.getElem?_toArray, List.getElem?_cons_succ, List.getElem?_cons_zero]; rfl) (by kernel_rfl) (by kernel_rfl) (by kernel_rfl) (fun _ _ _ h => h) (Or.inl ⟨by rfl, ?_⟩) (by assumption) ?_
      rotate_left
      · intro w hSw
        try dsimp only at hSw
        go_simp
        try with_reducible rfl
      try simp only [Act.put, List.setIfInBounds_toArray, List.set_cons_zero, List.set_cons_succ]
      refine wpAnyH_take (i := 3) (v := ?_) (by simp only [List.getElem?_toArray, List.getElem?_cons_succ, List.getElem?_cons_zero]; rfl) (by kernel_rfl) (by kernel_rfl) (by kernel_rfl) (fun _ _ _ h => h) (Or.inl ⟨by rfl, ?_⟩) (by assumption) ?_
      rotate_left
      · intro w hSw
        try dsimp only at hSw
        go_simp
        try with_reducible rfl
      try simp only [Act.put, List.setIfInBounds_toArray, List.set_cons_zero, List.set_cons_succ]
      refine wpAnyH_take (i := 4) (v := ?_) (by simp only [List.getElem?_toArray, List.getElem?_cons_succ, List.getElem?_cons_zero]; rfl) (by kernel_rfl) (by kernel_rfl) (by kernel_rfl) (fun _ _ _ h => h) (Or.inl ⟨by rfl, ?_⟩) (by assumption) ?_
      rotate_left
      · intro w hSw
        try dsimp only at hSw
        go_simp
        try with_reducible rfl
      try simp only [Act.put, List.setIfInBounds_toArray, List.set_cons_zero, List.set_cons_succ]
      refine wpAnyH_ready (rs := [5]) (by kernel_rfl) (by simp) ?_
      refine AllReadyH.cons (by simp only [List.getElem?_toArray, List.getElem?_cons_succ, List.getElem?_cons_zero]; rfl) (fun K hK => ?_) AllReadyH.nil
      go_simp
      refine HCT.out.mono ?_
      rintro e w5 ⟨rfl, S5, h5, o5, s5⟩
      rw [HCU.out.1, show enoOf 0 = .nilIface from rfl]
      rw [HCU.out.2.1] at h5
      have HO5 := Lib.hid HCU.out.2.2
      have K5 := Lib.hid (HR.out.cl.drew.step h5 o5 s5)
      have I5 := Lib.hid (RBes.step (W := wr.drew) ⟨HR.out.row.own.drew, HR.out.row.out⟩ o5 s5)
      have q5 : w5.cell? ⟨gl, r, none⟩ = some (.int .i64 en) := by
        have := I5.out.own.cells (g := gl) rfl r _ (by rw [lens_at R hrR, ← HEN.out])
        rwa [Addr.add_lit, Nat.zero_add] at this
      obtain ⟨t5, ht5⟩ : ∃ t5, t5 = (cutS s [102] R en).2.1 := ⟨_, rfl⟩
      rw [← ht5] at K5 HO5
      have HCN := Lib.hid (count_dl w5 _ d l S5 t5 [102] _ K5.out.dl)
      have HLE := Lib.hid (len_dl w5 _ d l S5 t5 [102] _ K5.out.dl)
      rw [HRL.out] at HCN
      rw [← HEN.out] at HLE
      clear h5 o5 s5 HCT ht5
      go_wp2_with fail
      refine hK.out _ _ q5 (fun hHeld => ?_)
      clear hK K
      try simp only [Act.put, List.setIfInBounds_toArray, List.set_cons_zero, List.set_cons_succ]
      refine wpAnyH_take (i := 6) (v := ?_) (by simp only [List.getElem?_toArray, List.getElem?_cons_succ, List.getElem?_cons_zero]; rfl) (by kernel_rfl) (by kernel_rfl) (by kernel_rfl) (fun _ _ _ h => h) (Or.inl ⟨by rfl, ?_⟩) (by assumption) ?_
      rotate_left
      · intro w hSw
        try dsimp only at hSw
        go_simp
        try with_reducible rfl
      try simp only [Act.put, List.setIfInBounds_toArray, List.set_cons_zero, List.set_cons_succ]
      refine wpAnyH_take (i := 7) (v := ?_) (by simp only [List.getElem?_toArray, List.getElem?_cons_succ, List.getElem?_cons_zero]; rfl) (by kernel_rfl) (by kernel_rfl) (by kernel_rfl) (fun _ _ _ h => h) (Or.inl ⟨by rfl, ?_⟩) (by assumption) ?_
      rotate_left
      · intro w hSw
        try dsimp only at hSw
        go_simp
        try with_reducible rfl
      try simp only [Act.put, List.setIfInBounds_toArray, List.set_cons_zero, List.set_cons_succ]
      refine wpAnyH_take (i := 8) (v := ?_) (by simp only [List.getElem?_toArray, List.getElem?_cons_succ, List.getElem?_cons_zero]; rfl) (by kernel_rfl) (by kernel_rfl) (by kernel_rfl) (fun _ _ _ h => h) (Or.inl ⟨by rfl, ?_⟩) (by assumption) ?_
      rotate_left
      · intro w hSw
        try dsimp only at hSw
        go_simp
        try with_reducible rfl
      try simp only [Act.put, List.setIfInBounds_toArray, List.set_cons_zero, List.set_cons_succ]
      refine wpAnyH_take (i := 10) (v := ?_) (by simp only [List.getElem?_toArray, List.getElem?_cons_succ, List.getElem?_cons_zero]; rfl) (by kernel_rfl) (by kernel_rfl) (by kernel_rfl) (fun _ _ _ h => h) (Or.inl ⟨by rfl, ?_⟩) (by assumption) ?_
      rotate_left
      · intro w hSw
        try dsimp only at hSw
        go_simp
        try with_reducible rfl
      try simp only [Act.put, List.setIfInBounds_toArray, List.set_cons_zero, List.set_cons_succ]
      refine wpAnyH_ready (rs := [9]) (by kernel_rfl) (by simp) ?_
      refine AllReadyH.cons (by simp only [List.getElem?_toArray, List.getElem?_cons_succ, List.getElem?_cons_zero]; rfl) (fun K hK => ?_) AllReadyH.nil
      go_simp
      refine HCN.out.mono ?_
      rintro e w' ⟨rfl, rfl⟩
      go_wp2_with fail
      refine hK.out _ _ q5 (fun hHeld => ?_)
      clear hK K
      try simp only [Act.put, List.setIfInBounds_toArray, List.set_cons_zero, List.set_cons_succ]
      refine wpAnyH_take (i := 11) (v := ?_) (by simp only [List.getElem?_toArray, List.getElem?_cons_succ, List.getElem?_cons_zero]; rfl) (by kernel_rfl) (by kernel_rfl) (by kernel_rfl) (fun _ _ _ h => h) (Or.inl ⟨by rfl, ?_⟩) (by assumption) ?_
      rotate_left
      · intro w hSw
        try dsimp only at hSw
        go_simp
        try with_reducible rfl
      try simp only [Act.put, List.setIfInBounds_toArray, List.set_cons_zero, List.set_cons_succ]
      refine wpAnyH_take (i := 12) (v := ?_) (by simp only [List.getElem?_toArray, List.getElem?_cons_succ, List.getElem?_cons_zero]; rfl) (by kernel_rfl) (by kernel_rfl) (by kernel_rfl) (fun _ _ _ h => h) (Or.inl ⟨by rfl, ?_⟩) (by assumption) ?_
      rotate_left
      · intro w hSw
        try dsimp only at hSw
        go_simp
        try with_reducible rfl
      try simp only [Act.put, List.setIfInBounds_toArray, List.set_cons_zero, List.set_cons_succ]
      refine wpAnyH_take (i := 13) (v := ?_) (by simp only [List.getElem?_toArray, List.getElem?_cons_succ, List.getElem?_cons_zero]; rfl) (by kernel_rfl) (by kernel_rfl) (by kernel_rfl) (fun _ _ _ h => h) (Or.inl ⟨by rfl, ?_⟩) (by assumption) ?_
      rotate_left
      · intro w hSw
        try dsimp only at hSw
        go_simp
        try with_reducible rfl
      try simp only [Act.put, List.setIfInBounds_toArray, List.set_cons_zero, List.set_cons_succ]
      refine wpAnyH_take (i := 14) (v := ?_) (by simp only [List.getElem?_toArray, List.getElem?_cons_succ, List.getElem?_cons_zero]; rfl) (by kernel_rfl) (by kernel_rfl) (by kernel_rfl) (fun _ _ _ h => h) (Or.inl ⟨by rfl, ?_⟩) (by assumption) ?_
      rotate_left
      · intro w hSw
        try dsimp only at hSw
        go_simp
        try with_reducible rfl
      try simp only [Act.put, List.setIfInBounds_toArray, List.set_cons_zero, List.set_cons_succ]
      refine wpAnyH_take (i := 16) (v := ?_) (by simp only [List.getElem?_toArray, List.getElem?_cons_succ, List.getElem?_cons_zero]; rfl) (by kernel_rfl) (by kernel_rfl) (by kernel_rfl) (fun _ _ _ h => h) (Or.inl ⟨by rfl, ?_⟩) (by assumption) ?_
      rotate_left
      · intro w hSw
        try dsimp only at hSw
        go_simp
        try with_reducible rfl
      try simp only [Act.put, List.setIfInBounds_toArray, List.set_cons_zero, List.set_cons_succ]
      refine wpAnyH_take (i := 17) (v := ?_) (by simp only [List.getElem?_toArray, List.getElem?_cons_succ, List.getElem?_cons_zero]; rfl) (by kernel_rfl) (by kernel_rfl) (by kernel_rfl) (fun _ _ _ h => h) (Or.inl ⟨by rfl, ?_⟩) (by assumption) ?_
      rotate_left
      · intro w hSw
        try dsimp only at hSw
        go_simp
        try with_reducible rfl
      try simp only [Act.put, List.setIfInBounds_toArray, List.set_cons_zero, List.set_cons_succ]
      refine wpAnyH_take (i := 18) (v := ?_) (by simp only [List.getElem?_toArray, List.getElem?_cons_succ, List.getElem?_cons_zero]; rfl) (by kernel_rfl) (by kernel_rfl) (by kernel_rfl) (fun _ _ _ h => h) (Or.inl ⟨by rfl, ?_⟩) (by assumption) ?_
      rotate_left
      · intro w hSw
        try dsimp only at hSw
        go_simp
        try with_reducible rfl
      try simp only [Act.put, List.setIfInBounds_toArray, List.set_cons_zero, List.set_cons_succ]
      refine wpAnyH_take (i := 19) (v := ?_) (by simp only [List.getElem?_toArray, List.getElem?_cons_succ, List.getElem?_cons_zero]; rfl) (by kernel_rfl) (by kernel_rfl) (by kernel_rfl) (fun _ _ _ h => h) (Or.inl ⟨by rfl, ?_⟩) (by assumption) ?_
      rotate_left
      · intro w hSw
        try dsimp only at hSw
        go_simp
        try with_reducible rfl
      try simp only [Act.put, List.setIfInBounds_toArray, List.set_cons_zero, List.set_cons_succ]
      refine wpAnyH_ready (rs := [15]) (by kernel_rfl) (by simp) ?_
      refine AllReadyH.cons (by simp only [List.getElem?_toArray, List.getElem?_cons_succ, List.getElem?_cons_zero]; rfl) (fun K hK => ?_) AllReadyH.nil
      go_simp
      refine HLE.out.mono ?_
      rintro e w' ⟨rfl, rfl⟩
      go_wp2_with fail
      refine hK.out _ _ q5 (fun hHeld => ?_)
      clear hK K
      try simp only [Act.put, List.setIfInBounds_toArray, List.set_cons_zero, List.set_cons_succ]
      refine wpAnyH_take (i := 20) (v := ?_) (by simp only [List.getElem?_toArray, List.getElem?_cons_succ, List.getElem?_cons_zero]; rfl) (by kernel_rfl) (by kernel_rfl) (by kernel_rfl) (fun _ _ _ h => h) (Or.inl ⟨by rfl, ?_⟩) (by assumption) ?_
      rotate_left
      · intro w hSw
        try dsimp only at hSw
        go_simp
        try with_reducible rfl
      try simp only [Act.put, List.setIfInBounds_toArray, List.set_cons_zero, List.set_cons_succ]
      refine wpAnyH_take (i := 21) (v := ?_) (by simp only [List.getElem?_toArray, List.getElem?_cons_succ, List.getElem?_cons_zero]; rfl) (by kernel_rfl) (by kernel_rfl) (by kernel_rfl) (fun _ _ _ h => h) (Or.inl ⟨by rfl, ?_⟩) (by assumption) ?_
      rotate_left
      · intro w hSw
        try dsimp only at hSw
        go_simp
        try with_reducible rfl
      try simp only [Act.put, List.setIfInBounds_toArray, List.set_cons_zero, List.set_cons_succ]
      refine wpAnyH_take (i := 22) (v := ?_) (by simp only [List.getElem?_toArray, List.getElem?_cons_succ, List.getElem?_cons_zero]; rfl) (by kernel_rfl) (by kernel_rfl) (by kernel_rfl) (fun _ _ _ h => h) (Or.inl ⟨by rfl, ?_⟩) (by assumption) ?_
      rotate_left
      · intro w hSw
        try dsimp only at hSw
        go_simp
        try with_reducible rfl
      try simp only [Act.put, List.setIfInBounds_toArray, List.set_cons_zero, List.set_cons_succ]
      refine wpAnyH_take (i := 23) (v := ?_) (by simp only [List.getElem?_toArray, List.getElem?_cons_succ, List.getElem?_cons_zero]; rfl) (by kernel_rfl) (by kernel_rfl) (by kernel_rfl) (fun _ _ _ h => h) (Or.inl ⟨by rfl, ?_⟩) (by assumption) ?_
      rotate_left
      · intro w hSw
        try dsimp only at hSw
        go_simp
        try with_reducible rfl
      try simp only [Act.put, List.setIfInBounds_toArray, List.set_cons_zero, List.set_cons_succ]
      refine wpAnyH_take (i := 24) (v := ?_) (by simp only [List.getElem?_toArray, List.getElem?_cons_succ, List.getElem?_cons_zero]; rfl) (by kernel_rfl) (by kernel_rfl) (by kernel_rfl) (fun _ _ _ h => h) (Or.inl ⟨by rfl, ?_⟩) (by assumption) ?_
      rotate_left
      · intro w hSw
        try dsimp only at hSw
        go_simp
        try with_reducible rfl
      try simp only [Act.put, List.setIfInBounds_toArray, List.set_cons_zero, List.set_cons_succ]
      refine wpAnyH_ready (rs := [25]) (by kernel_rfl) (by simp) ?_
      refine AllReadyH.cons (by simp only [List.getElem?_toArray, List.getElem?_cons_succ, List.getElem?_cons_zero]; rfl) (fun K hK => ?_) AllReadyH.nil
      go_simp
      refine (few_nb w5 vm mo 100 (by decide) (HMO.out.kb K5.out.bel)).mono ?_
      rintro e w6 ⟨ga, ca, rfl, o6, b6⟩
      obtain ⟨y, hy⟩ : ∃ y, y = mo.take 100 := ⟨_, rfl⟩
      have HYL : Hid (y.length ≤ 100) := Lib.hid (by rw [hy, List.length_take]; exact Nat.min_le_left _ _)
      have HRK : Hid (Rok ((77 : Int), y)) := Lib.hid ⟨by show (1 : Int) ≤ 77; decide, by show (77 : Int) ≤ 255; decide, Nat.le_trans HYL.out (by decide), by rw [hy]; exact OKM.out.take 100⟩
      rw [← hy] at o6 ⊢
      have K6 := Lib.hid (K5.out.kb b6)
      have I6 := Lib.hid (I5.out.kb b6)
      have hlt6 := K5.out.dl.lt
      have BY6 : Hid (Beside w6 S5 w5.heap.size (.slice (some ⟨ga, 0, none⟩) y.length ca) y) := Lib.hid ⟨o6, fun j hj hs => by have h1 := (o6.lt j hj).1; have h2 := hlt6 j hs; omega⟩
      have q6 := lcell_kb q5 b6
      clear o6 b6 hy hlt6
      go_wp2_with fail
      refine hK.out _ _ q6 (fun hHeld => ?_)
      clear hK K
      try simp only [Act.put, List.setIfInBounds_toArray, List.set_cons_zero, List.set_cons_succ]
      have HAD := Lib.hid (HO5.out.added (R := R.take r) HRK.out (by rw [← HEN.out]; show _ + (9 + y.length) ≤ 100000; have := HYL.out; omega))
      refine wpAnyH_ready (rs := [26]) (by kernel_rfl) (by simp) ?_
      refine AllReadyH.cons (by simp only [List.getElem?_toArray, List.getElem?_cons_succ, List.getElem?_cons_zero]; rfl) (fun K hK => ?_) AllReadyH.nil
      go_simp
      refine (add_to w6 _ d l S5 t5 [102] (R.take r) 77 _ y K6.out.dl (Nat.le_trans HO5.out.works (by omega)) (by rw [HO5.out.fuse]; decide) (by decide) HRK.out.2.2.2 (Seen.own BY6.out.own) BY6.out.out (Nat.le_trans HYL.out (by decide)) (by rw [← HEN.out]; omega)).mono ?_
      rintro e w7 ⟨rfl, S7, h7, o7, s7⟩
      rw [HAD.out.1, show enoOf 0 = .nilIface from rfl]
      rw [HAD.out.2.1] at h7
      have HO7 := Lib.hid HAD.out.2.2.1
      have K7 := Lib.hid (K6.out.step h7 o7 s7)
      have I7 := Lib.hid (I6.out.step o7 s7)
      have q7 : w7.cell? ⟨gl, r, none⟩ = some (.int .i64 en) := by
        have := I7.out.own.cells (g := gl) rfl r _ (by rw [lens_at R hrR, ← HEN.out])
        rwa [Addr.add_lit, Nat.zero_add] at this
      obtain ⟨t7, ht7⟩ : ∃ t7, t7 = (addS t5 [102] (R.take r) 77 y).2.1 := ⟨_, rfl⟩
      rw [← ht7] at K7 HO7
      clear h7 o7 s7 ht7 K5 I5 K6 I6
      go_wp2_with fail
      refine hK.out _ _ q7 (fun hHeld => ?_)
      clear hK K
      try simp only [Act.put, List.setIfInBounds_toArray, List.set_cons_zero, List.set_cons_succ]
      refine wpAnyH_take (i := 27) (v := ?_) (by simp only [List.getElem?_toArray, List.getElem?_cons_succ, List.getElem?_cons_zero]; rfl) (by kernel_rfl) (by kernel_rfl) (by kernel_rfl) (fun _ _ _ h => h) (Or.inl ⟨by rfl, ?_⟩) (by assumption) ?_
      rotate_left
      · intro w hSw
        try dsimp only at hSw
        go_simp
        try with_reducible rfl
      try simp only [Act.put, List.setIfInBounds_toArray, List.set_cons_zero, List.set_cons_succ]
      refine wpAnyH_take (i := 28) (v := ?_) (by simp only [List.getElem?_toArray, List.getElem?_cons_succ, List.getElem?_cons_zero]; rfl) (by kernel_rfl) (by kernel_rfl) (by kernel_rfl) (fun _ _ _ h => h) (Or.inl ⟨by rfl, ?_⟩) (by assumption) ?_
      rotate_left
      · intro w hSw
        try dsimp only at hSw
        go_simp
        try with_reducible rfl
      try simp only [Act.put, List.setIfInBounds_toArray, List.set_cons_zero, List.set_cons_succ]
      refine wpAnyH_done (by kernel_rfl) ?_ _
      refine NoPanic.normal ?_
      have HKD := Lib.hid HR.out.kind
      clear q5 q6 q7 hlen HCN HLE HCU HAD BY6 HO5
      obtain ⟨R2, hR2⟩ : ∃ R2, R2 = R.take r ++ [((77 : Int), y)] := ⟨_, rfl⟩
      rw [← hR2] at K7 HO7
      have HR2 := Lib.hid hR2
      have HL2 : Hid (R2.length = r + 1) := Lib.hid (by rw [hR2, List.length_append, HRL.out]; rfl)
      clear hR2
      go_wp2_with fail
      go_loopw [14] (fun i wr => ∃ (j : Nat), j ≤ r + 1 ∧ i = .int .i64 j ∧ Hid (CL w wr w.heap.size d l S7 t7 [102] R2 ∧ RBes wr S7 w.heap.size 3 (.slice (some ⟨gl, 0, none⟩) (k + 1) cl) (k + 1) (iss (lens R)))) (fun i _ => r + 1 - (intOf i).toNat)
      case atStart => exact ⟨0, Nat.zero_le _, rfl, Lib.hid ⟨K7.out, I7.out⟩⟩
      case round =>
        obtain ⟨j, hj, rfl, HC⟩ := hrel
        clear K7 I7
        by_cases hjr : j ≤ r
        · have hjr' : (j : Int) ≤ (r : Int) := by omega
          have hj0 : 0 ≤ (j : Int) := by omega
          obtain ⟨kd, hkd⟩ : ∃ kd : Nat, kd = if j < r then 1 + j else 77 := ⟨_, rfl⟩
          have HRE : Hid (∃ b, recR R2 j = ((kd : Int), b, true)) := Lib.hid (by
            have hjl : j < R2.length := by rw [HL2.out]; omega
            refine ⟨R2[j].2, ?_⟩
            unfold recR
            rw [if_neg (by omega), Int.toNat_natCast, List.getElem?_eq_getElem hjl]
            simp only
            have : R2[j].1 = (kd : Int) := by
              have e : R2[j] = (R.take r ++ [((77 : Int), y)])[j]'(by rw [← HR2.out]; exact hjl) := by simp only [HR2.out]
              rw [e]
              by_cases h : j < r
              · rw [List.getElem_append_left (by rw [HRL.out]; exact h), List.getElem_take, HKD.out j (by omega), hkd, if_pos h]; omega
              · have hje : j = r := by omega
                rw [List.getElem_append_right (by rw [HRL.out]; omega)]
                simp only [HRL.out, hje, Nat.sub_self, List.getElem_cons_zero]
                rw [hkd, if_neg h]; rfl
            rw [this])
          have HRC := Lib.hid (record_dl wr _ d l S7 t7 [102] R2 j HC.out.1.dl)
          obtain ⟨bb, hbb⟩ := HRE.out
          by_cases hjlt : j < r
          · rw [if_pos hjlt] at hkd
            have hjlt' : (j : Int) < r := by omega
            have hk1 : 1 + (j : Int) = (kd : Int) := by omega
            have hkw : IntKind.i64.wrap (kd : Int) = (kd : Int) := IntWalk.i64_in _ (by omega)
            have hkk : ((kd : Int) != (kd : Int)) = false := by simp
            have hje : ((j : Int) == (r : Int)) = false := by simp; omega
            clear hkd
            go_wp2_with fail
            refine HRC.out.mono ?_
            rintro e w8 ⟨v8, he, o8, b8⟩
            rw [hbb] at he
            subst he
            have HC8 : Hid (CL w w8 w.heap.size d l S7 t7 [102] R2 ∧ RBes w8 S7 w.heap.size 3 (.slice (some ⟨gl, 0, none⟩) (k + 1) cl) (k + 1) (iss (lens R))) := Lib.hid ⟨HC.out.1.kb b8, HC.out.2.kb b8⟩
            obtain ⟨p8, c8, rfl⟩ := own_slice o8
            clear o8 b8 HRC
            go_wp2_with fail
            exact ⟨⟨j + 1, by omega, by go_num, HC8⟩, by simp [intOf]; omega⟩
          · rw [if_neg hjlt] at hkd
            have hjlt' : ¬ (j : Int) < r := by omega
            have hje : ((j : Int) == (r : Int)) = true := by simp; omega
            subst hkd
            go_wp2_with fail
            refine HRC.out.mono ?_
            rintro e w8 ⟨v8, he, o8, b8⟩
            rw [hbb] at he
            subst he
            have HC8 : Hid (CL w w8 w.heap.size d l S7 t7 [102] R2 ∧ RBes w8 S7 w.heap.size 3 (.slice (some ⟨gl, 0, none⟩) (k + 1) cl) (k + 1) (iss (lens R))) := Lib.hid ⟨HC.out.1.kb b8, HC.out.2.kb b8⟩
            obtain ⟨p8, c8, rfl⟩ := own_slice o8
            clear o8 b8 HRC
            go_wp2_with fail
            exact ⟨⟨j + 1, by omega, by go_num, HC8⟩, by simp [intOf]; omega⟩
        · have hjr' : ¬ (j : Int) ≤ (r : Int) := by omega
          have HLE := Lib.hid (len_dl wr _ d l S7 t7 [102] R2 HC.out.1.dl)
          have HRK2 : Hid (∀ r ∈ R2, Rok r) := Lib.hid HC.out.1.dl.rok.1
          have hop := OneF.opened (s := t7) (R := R2) (T := []) (by rw [List.append_nil]; exact HO7.out) HRK2.out
          obtain ⟨e2, he2⟩ : ∃ e2, e2 = ends R2 := ⟨_, rfl⟩
          rw [← he2] at HLE hop
          have HOP := Lib.hid hop
          obtain ⟨S0, hd0, hs0⟩ := HC.out.1.dl.ds
          have HD0 := Lib.hid hd0
          have HS0 := Lib.hid hs0
          clear hop hd0 hs0 he2
          go_wp2_with (refine HLE.out.mono ?_; rintro e w' ⟨rfl, rfl⟩)
          refine (open_ok wr _ d S0 t7 [102] e2 HD0.out (Nat.le_trans HO7.out.works (by omega)) (by rw [HO7.out.fuse]; decide) (by decide) (by rw [HO7.out.fb]; exact encs_ok fun r hr => (HRK2.out r hr).2.2.2) HOP.out.1).mono ?_
          rintro e w8 ⟨b, S8, rfl, h8, o8, s8⟩
          rw [HOP.out.2.1] at h8
          have K8 := Lib.hid (HC.out.1.opened HS0.out h8 o8 s8)
          have I8 := Lib.hid (HC.out.2.step (o8.mono fun k _ e => HS0.out k e) (fun k hk => (s8 k hk).imp (HS0.out k) id))
          have HO8 := Lib.hid HOP.out.2.2
          obtain ⟨t8, ht8⟩ : ∃ t8, t8 = (openS t7 [102] e2).2.1 := ⟨_, rfl⟩
          rw [← ht8] at K8 HO8
          have HCN := Lib.hid (count_dl w8 _ d b S8 t8 [102] _ K8.out.dl)
          rw [HL2.out] at HCN
          clear h8 o8 s8 ht8 HOP HD0 HS0 HC HLE
          have hrr1 : (((r + 1 : Nat) : Int) != (r : Int) + 1) = false := by simp
          go_wp2_with (refine HCN.out.mono ?_; rintro e w' ⟨rfl, rfl⟩)
          obtain ⟨S9, hd9, hs9⟩ := K8.out.dl.ds
          have HL9 : Hid (Cl w w8 w.heap.size d S9 t8 ∧ OneF t8 (encs (R.take r) ++ frm 77 y) (100 + r - (r + 1)) ∧ Okb (frm 77 y) ∧ RBes w8 S9 w.heap.size 3 (.slice (some ⟨gl, 0, none⟩) (k + 1) cl) (k + 1) (iss (lens R))) := Lib.hid ⟨⟨hd9, K8.out.bel, fun j hj => K8.out.ge j (hs9 j hj)⟩, by have := HO8.out; rw [HR2.out, encs_snoc] at this; exact this.mono (by omega), frm_ok _ HRK.out.2.2.2, ⟨I8.out.own, fun j hj hs => I8.out.out j hj (hs9 j hs)⟩⟩
          have HRR : Hid (∀ x ∈ R, Rok x) := Lib.hid HR.out.cl.dl.rok.1
          clear hd9 hs9 K8 I8 HO8 HCN
          go_loopw [20] (fun i wr => ∃ (t : Nat) (S : Nat → Prop) (s : St) (T : List Int), t ≤ r + 1 ∧ i = .int .i64 ((t : Int) - 1) ∧ Hid (Cl w wr w.heap.size d S s ∧ OneF s (encs (R.take (t - 1)) ++ T) (100 + r - t) ∧ Okb T ∧ RBes wr S w.heap.size 3 (.slice (some ⟨gl, 0, none⟩) (k + 1) cl) (k + 1) (iss (lens R)))) (fun i _ => (intOf i + 1).toNat)
          case atStart => exact ⟨r + 1, S9, t8, frm 77 y, Nat.le_refl _, by go_num, HL9⟩
          case round =>
            obtain ⟨t, S, s, T, ht, rfl, HT⟩ := hrel
            clear HL9
            cases t with
            | zero =>
              go_wp2_with fail
              go_ret
              exact ⟨rfl, HT.out.1.bel⟩
            | succ j =>
              have hjr : j ≤ r := by omega
              have hji : ((j + 1 : Nat) : Int) - 1 = (j : Int) := by omega
              rw [hji]
              have hj0 : 0 ≤ (j : Int) := by omega
              have hjk : (j : Int) < (k : Int) + 1 := by omega
              have hjw : IntKind.i64.wrap (j : Int) = (j : Int) := IntWalk.i64_in _ (by omega)
              have hjR : j ≤ R.length := by omega
              have hcell : wr.cell? ⟨gl, j, none⟩ = some (.int .i64 (ends (R.take j) : Nat)) := by
                have := HT.out.2.2.2.own.cells (g := gl) rfl j _ (lens_at R hjR)
                rwa [Addr.add_lit, Nat.zero_add] at this
              have HRJ : Hid (∀ x ∈ R.take j, Rok x) := Lib.hid fun x hx => HRR.out x (List.mem_of_mem_take hx)
              have hop := HT.out.2.1.opened HRJ.out
              simp only [Nat.add_sub_cancel] at hop
              obtain ⟨ej, hej⟩ : ∃ ej, ej = ends (R.take j) := ⟨_, rfl⟩
              have HJL : Hid ((R.take j).length = j) := Lib.hid (by rw [List.length_take]; omega)
              rw [← hej] at hcell hop
              have HOP := Lib.hid hop
              have hjj : ((j : Int) != (j : Int)) = false := by simp
              clear hop hej
              go_wp2_with fail
              refine (open_ok wr _ d S s [102] ej HT.out.1.ds (Nat.le_trans HT.out.2.1.works (by omega)) (by rw [HT.out.2.1.fuse]; decide) (by decide) (by rw [HT.out.2.1.fb]; exact (encs_ok fun x hx => (HRR.out x (List.mem_of_mem_take hx)).2.2.2).app HT.out.2.2.1) HOP.out.1).mono ?_
              rintro e wa ⟨c, Sa, rfl, ha, oa, sa⟩
              rw [HOP.out.2.1] at ha
              have Ka := Lib.hid (HT.out.1.opened ha oa sa)
              have Ia := Lib.hid (HT.out.2.2.2.step oa sa)
              have HOa := Lib.hid HOP.out.2.2
              obtain ⟨ta, hta⟩ : ∃ ta, ta = (openS s [102] ej).2.1 := ⟨_, rfl⟩
              rw [← hta] at Ka HOa
              have HCN := Lib.hid (count_dl wa _ d c Sa ta [102] _ Ka.out.dl)
              rw [HJL.out] at HCN
              clear ha oa sa hta hcell HOP
              go_wp2_with (refine HCN.out.mono ?_; rintro e w' ⟨rfl, rfl⟩)
              obtain ⟨Sb, hdb, hsb⟩ := Ka.out.dl.ds
              refine ⟨⟨j, Sb, ta, encs ((R.take j).drop (j - 1)), by omega, by go_num, Lib.hid ⟨⟨hdb, Ka.out.bel, fun x hx => Ka.out.ge x (hsb x hx)⟩, ?_, encs_ok fun x hx => (HRJ.out x (List.mem_of_mem_drop hx)).2.2.2, ⟨Ia.out.own, fun x hx hs => Ia.out.out x hx (hsb x hs)⟩⟩⟩, by simp [intOf]⟩
              have e : R.take (j - 1) ++ (R.take j).drop (j - 1) = R.take j := by
                have := List.take_append_drop (j - 1) (R.take j)
                rwa [List.take_take, Nat.min_eq_left (by omega)] at this
              rw [← encs_app, e]
              exact HOa.out.mono (by omega)
end Go.Proofs.Ytcolkgeflokgeaa
