/- SpansNumbers returns true and makes new memory alone. No condition. -/
import Derived.Test.YtpjfgkjhhmfhkaaSpnKn
import Derived.Test.YtpjfgkjhhmfhkaaSpnO
namespace Go.Proofs.Ytpjfgkjhhmfhkaa
open Go.RowKit

theorem rev_drop {l : List Int} {k : Nat} (h : k ≤ l.length) : (l.drop (l.length - k)).reverse = l.reverse.take k := by
  rw [List.reverse_drop]
  congr 1
  omega
/-- What the statement needs of a set of small numbers. -/
structure NumF (X : List Sp) (n : Int) : Prop where
  c0 : cnt (fir X (1000 : Int).toNat) ≤ 1000000
  f0 : els (fir X (1000 : Int).toNat) = els X
  len : (els X).reverse.length ≤ 101
  cx : min (cnt (mk X) : Int) 9223372036854775807 = ((els X).reverse.length : Int)
  tops : ∀ x ∈ (els X).reverse, x ≤ topN
  ofx : mk ((els X).reverse.map one) = X
  mem : ∀ x ∈ (els X).reverse, Has X x
  desc : ∀ (k : Nat) (y x : Int), (els X).reverse[k]? = some y → (els X).reverse[k + 1]? = some x → x < y
theorem nums_facts {X : List Sp} {n : Int} (hn : Nrm X) (ht : Top 100 X) : NumF X n := by
  have hc := cnt_le hn ht (by decide)
  have hm : mk X = X := mk_self hn
  have hl : (els X).length = cnt X := rfl
  have hf : els (fir X (1000 : Int).toNat) = els X := by
    rw [fir_els, hm]
    have : cnt X - min (cnt X) (1000 : Int).toNat = 0 := by have : (1000 : Int).toNat = 1000 := rfl; omega
    rw [this, List.drop_zero]
  have hfc : cnt (fir X (1000 : Int).toNat) = cnt X := by show (els _).length = _; rw [hf]; rfl
  refine ⟨by rw [hfc]; omega, hf, by rw [List.length_reverse]; omega, by rw [hm, List.length_reverse, hl]; omega, fun x hx => ?_, ?_, fun x hx => ?_, fun k y x h1 h2 => ?_⟩
  · rw [List.mem_reverse, mem_els hn] at hx
    have := top_has ht hx
    unfold topN; omega
  · refine uniq (mk_nrm _) hn fun z => ?_
    rw [mk_has, one_has, List.mem_reverse, mem_els hn]
    exact ⟨fun h => h.2, fun h => ⟨h.1, h⟩⟩
  · rwa [List.mem_reverse, mem_els hn] at hx
  · have hp := els_asc hn
    have hr : (els X).reverse.Pairwise (fun a b => b < a) := by rw [List.pairwise_reverse]; exact hp
    rw [List.pairwise_iff_getElem] at hr
    obtain ⟨hk1, e1⟩ := List.getElem?_eq_some_iff.1 h1
    obtain ⟨hk2, e2⟩ := List.getElem?_eq_some_iff.1 h2
    have := hr k (k + 1) hk1 hk2 (Nat.lt_succ_self _)
    rw [e1, e2] at this
    exact this
theorem NSeen.cap {w : World} {p : Option Addr} {n cap : Nat} {l : List Int} (h : NSeen w (.slice p n cap) l) : n ≤ cap := by
  obtain ⟨p0, cap0, e, hcl, hs⟩ := h
  injection e with e1 e2 e3
  subst e1 e3 e2
  exact hcl
theorem NSeen.drop {w : World} {p p' : Option Addr} {n cap cap' m : Nat} {l : List Int} (h : NSeen w (.slice p n cap) l) (hm : m ≤ l.length) (hc : cap' = cap - m) (hp : ∀ a, p = some a → m < l.length → p' = some (a.add m)) : NSeen w (.slice p' (n - m) cap') (l.drop m) := by
  obtain ⟨p0, cap0, e, hcl, hs⟩ := h
  injection e with e1 e2 e3
  subst e1 e3 e2 hc
  refine ⟨p', cap - m, by rw [List.length_drop], by rw [List.length_drop]; omega, fun j x hj => ?_⟩
  rw [List.getElem?_drop] at hj
  obtain ⟨a, ha, h1⟩ := hs (m + j) x hj
  have hlt : m < l.length := by have := (List.getElem?_eq_some_iff.1 hj).1; omega
  exact ⟨_, hp a ha hlt, by rw [Addr.add_add]; exact h1⟩
theorem NSeen.tail {w : World} {p : Option Addr} {n cap d m : Nat} {l : List Int} (h : NSeen w (.slice p n cap) l) (hd : d ≤ n) (hm : n - d = m) : NSeen w (.slice (if cap = d then p else Option.map (fun x => x.add d) p) m (cap - d)) (l.drop d) := by
  have hn : n = l.length := by
    obtain ⟨p0, cap0, e, _⟩ := h
    injection e
  have hc := h.cap
  subst hm
  refine h.drop (by omega) rfl fun a ha hlt => ?_
  rw [if_neg (by omega), ha]
  rfl
/-- What the ends of a set of small numbers are. -/
structure NumG (X : List Sp) (q ne m : Nat) : Prop where
  hm : m = min q ne
  le : m ≤ ne
  hmin : min (q : Int) (ne : Int) = (m : Int)
  f1 : (els (fir (fir X (q : Int).toNat) (1000 : Int).toNat)).reverse = (els X).reverse.take m
  f2 : cnt (fir (fir X (q : Int).toNat) (1000 : Int).toNat) ≤ 1000000
  g1 : (els (fir (las X (q : Int).toNat) (1000 : Int).toNat)).reverse = (els X).reverse.drop (ne - m)
  g2 : cnt (fir (las X (q : Int).toNat) (1000 : Int).toNat) ≤ 1000000
  h1 : (els (fir X (q : Int).toNat)).reverse = (els X).reverse.take m
  h2 : cnt (fir X (q : Int).toNat) ≤ 1000000
  s1 : (els (fir (ski X (q : Int).toNat) (1000 : Int).toNat)).reverse = (els X).reverse.drop m
  s2 : cnt (fir (ski X (q : Int).toNat) (1000 : Int).toNat) ≤ 1000000
theorem fir_all {X : List Sp} (hn : Nrm X) (hc : cnt X ≤ 1000) : els (fir X (1000 : Int).toNat) = els X := by
  rw [fir_els, mk_self hn]
  have : cnt X - min (cnt X) (1000 : Int).toNat = 0 := by have : (1000 : Int).toNat = 1000 := rfl; omega
  rw [this, List.drop_zero]
theorem numg_facts {X : List Sp} (hn : Nrm X) (ht : Top 100 X) (q ne : Nat) (he : ne = (els X).reverse.length) : NumG X q ne (min q ne) := by
  have hc := cnt_le hn ht (by decide)
  have hc1 : (els X).length ≤ 101 := by have := hc; unfold cnt at this; omega
  have hm : mk X = X := mk_self hn
  rw [List.length_reverse] at he
  have hl : cnt X = ne := by rw [he]; rfl
  have tn : (q : Int).toNat = q := by simp
  have e1 : els (fir X q) = (els X).drop (ne - min ne q) := by rw [fir_els, hm, hl]
  have e2 : els (las X q) = (els X).take q := by rw [las_els, hm]
  have e3 : els (ski X q) = (els X).take (ne - min ne q) := by rw [ski_els, hm, hl]
  have l1 : cnt (fir X q) ≤ 1000 := by show (els _).length ≤ _; rw [e1, List.length_drop]; omega
  have l2 : cnt (las X q) ≤ 1000 := by show (els _).length ≤ _; rw [e2, List.length_take]; omega
  have l3 : cnt (ski X q) ≤ 1000 := by show (els _).length ≤ _; rw [e3, List.length_take]; omega
  have a1 := fir_all (fir_nrm X q) l1
  have a2 := fir_all (las_nrm X q) l2
  have a3 := fir_all (ski_nrm X q) l3
  have r1 : ((els X).drop (ne - min ne q)).reverse = (els X).reverse.take (min q ne) := by
    rw [he, rev_drop (Nat.min_le_left _ _), Nat.min_comm]
  have r2 : ((els X).take q).reverse = (els X).reverse.drop (ne - min q ne) := by
    rw [List.reverse_take]; congr 1; omega
  have r3 : ((els X).take (ne - min ne q)).reverse = (els X).reverse.drop (min q ne) := by
    rw [List.reverse_take]; congr 1; omega
  have c1 : ∀ {Y : List Sp}, Nrm Y → cnt Y ≤ 1000 → cnt (fir Y (1000 : Int).toNat) ≤ 1000000 := fun hY hl => by
    show (els _).length ≤ _
    rw [fir_all hY hl]
    have : (els _).length ≤ 1000 := hl
    omega
  refine ⟨rfl, Nat.min_le_right _ _, by omega, ?_, ?_, ?_, ?_, ?_, ?_, ?_, ?_⟩
  · rw [tn, a1, e1, r1]
  · rw [tn]; exact c1 (fir_nrm X q) l1
  · rw [tn, a2, e2, r2]
  · rw [tn]; exact c1 (las_nrm X q) l2
  · rw [tn, e1, r1]
  · rw [tn]; omega
  · rw [tn, a3, e3, r3]
  · rw [tn]; exact c1 (ski_nrm X q) l3
theorem kp_drew {w W : World} {xs : List Ent} (K : Kp w W xs) : Kp w W.drew xs := K.next (Below.refl _ W).drew
set_option maxRecDepth 20000 in
set_option maxHeartbeats 16000000 in
theorem spansNumbers_walk (w : World) (va : Value) (n : Int) (la : List Int) (ha : NSeen w va la) : Calls Try.prog 7 #[va, .int .i64 n] w fun e w' => e = .returned (.bool true) ∧ Below w.heap.size w w' := by
  have HA := Lib.hid ha
  have K0 := Lib.hid (Kp.start w)
  clear ha
  go_enter Try.func7, Try.ntmps7
  go_wp2_with fail
  refine (kset K0.out _ la false HA.out).mono ?_
  rintro e w1 ⟨v1, L1, rfl, ok1, k⟩
  have OK1 := Lib.hid ok1
  have K1 := Lib.hid k
  clear k ok1 K0
  go_wp2_with fail
  refine (kmake K1.out 0 rfl (by dsimp only; decide)).mono ?_
  rintro e w2 ⟨v2, rfl, k⟩
  dsimp only at k
  have NX := Lib.hid (nums_facts (n := n) (mk_nrm L1) (mk_top (OK1.out.small rfl)))
  have TX := Lib.hid (mk_top OK1.out.top)
  have T1 := Lib.hid (mk_top (OK1.out.small rfl))
  have HXN := Lib.hid (mk_nrm L1)
  generalize mk L1 = X at *
  have K2 := Lib.hid k
  clear k K1
  go_wp2_with fail
  refine (kids (K2.out.re) 0 rfl (by dsimp only; decide) 1000 (by decide) NX.out.c0).mono ?_
  rintro e w3 ⟨v3, rfl, o3, k⟩
  dsimp only at o3
  rw [NX.out.f0] at o3
  obtain ⟨E, hE⟩ : ∃ E, E = (els X).reverse := ⟨_, rfl⟩
  have HE := Lib.hid hE
  rw [← hE] at o3
  have hEl := NX.out.len
  rw [← hE] at hEl
  have S3 := Lib.hid o3.seen
  obtain ⟨pl, cl, rfl⟩ := o3.seen.form
  have K3 := Lib.hid (K2.out.frm k)
  clear o3 k K2 hE
  obtain ⟨ne, hne⟩ : ∃ ne, ne = E.length := ⟨_, rfl⟩
  have HNE := Lib.hid hne
  rw [← hne] at S3 ⊢
  have hn101 : ne ≤ 101 := by omega
  clear hne hEl
  go_wp2_with fail
  refine (kknown (K3.out.re)).mono ?_
  rintro e w4 ⟨rfl, k⟩
  have S4 := Lib.hid (S3.out.kb k.bel)
  have K4 := Lib.hid (K3.out.frm k)
  clear S3 K3
  clear k
  go_wp2_with fail
  refine (kcount (K4.out.re) 0 rfl (by dsimp only; decide)).mono ?_
  rintro e w5 ⟨rfl, k⟩
  have S5 := Lib.hid (S4.out.kb k.bel)
  have K5 := Lib.hid (K4.out.frm k)
  clear S4 K4
  clear k
  dsimp only
  rw [show min (cnt (mk X) : Int) 9223372036854775807 = (ne : Int) from by rw [HNE.out, HE.out]; exact NX.out.cx]
  have hq : ((ne : Int) != (ne : Int)) = false := by simp
  go_wp2_with fail
  refine (of_to w5 _ E S5.out (by rw [← HNE.out]; omega) (by rw [HE.out]; exact NX.out.tops)).mono ?_
  rintro e w6 ⟨v6, rfl, o6, b6⟩
  rw [show mk (E.map one) = X from by rw [HE.out]; exact NX.out.ofx] at o6
  have S6 := Lib.hid (S5.out.kb b6)
  have K6 := Lib.hid ((K5.out.next b6).push (x := ⟨v6, X, 12⟩) o6.seen (K5.out.at (i := 0) rfl).2.1 TX.out)
  clear S5 K5 o6 b6
  go_wp2_with fail
  refine (ksame (K6.out.re) 0 1 rfl rfl (by dsimp only; decide) rfl).mono ?_
  rintro e w7 ⟨rfl, k⟩
  have S7 := Lib.hid (S6.out.kb k.bel)
  have K7 := Lib.hid (K6.out.frm k)
  clear S6 K6
  clear k
  go_wp2_with fail
  go_loopw [7] (fun i wr => ∃ k : Nat, k ≤ ne ∧ i = .int .i64 k ∧ Hid (Kp w wr [⟨v6, X, 12⟩, ⟨v2, X, 12⟩, ⟨v1, L1, 12⟩]) ∧ Hid (NSeen wr (.slice pl ne cl) E)) (fun i _ => ne - (intOf i).toNat)
  case atStart => exact ⟨0, Nat.zero_le _, rfl, K7, S7⟩
  case round =>
    clear K7 S7
    obtain ⟨k, hk, rfl, KL, SL⟩ := hrel
    by_cases hlt : k < ne
    · have hkl : k < E.length := by rw [← HNE.out]; exact hlt
      have hk' : (k : Int) < ne := by omega
      obtain ⟨a, rfl, c1⟩ := SL.out.at hkl
      obtain ⟨x, hx⟩ : ∃ x, x = E[k] := ⟨_, rfl⟩
      have hxk : E[k]? = some x := by rw [hx]; exact List.getElem?_eq_getElem hkl
      rw [← hx] at c1
      have HXK := Lib.hid hxk
      have hhas : (decide (0 ≤ x) && hasB X x) = true := hasB_iff.2 (NX.out.mem x (by rw [← HE.out]; exact List.mem_of_getElem? hxk))
      have HH := Lib.hid hhas
      clear hx hxk hhas
      have C1 := Lib.hid c1
      cases k with
      | zero =>
        have ea : a.add 0 = a := by simp [Addr.add]
        rw [ea] at c1 C1
        go_wp2_with fail
        have KD := Lib.hid (kp_drew KL.out)
        have SD : Hid (NSeen wr.drew (.slice (some a) ne cl) E) := Lib.hid SL.out
        have CD1 : Hid (wr.drew.cell? a = some (.int .i64 x)) := Lib.hid C1.out
        try simp only [List.append]
        refine wp_region_noPanic ?_
        refine wp_region_held_drew (S := (fun W => W.cell? a = some (.int .i64 x))) (by kernel_rfl) c1 (fun hHeld => ?_)
        refine wpAnyH_take (i := 0) (v := ?_) (by simp only [List.getElem?_toArray, List.getElem?_cons_zero]; rfl) (by kernel_rfl) (by kernel_rfl) (by kernel_rfl) (fun _ _ _ h => h) (Or.inl ⟨by rfl, ?_⟩) (by assumption) ?_
        rotate_left
        · intro w hSw
          try dsimp only at hSw
          go_simp
          try with_reducible rfl
        try simp only [Act.put, List.setIfInBounds_toArray, List.set_cons_zero, List.set_cons_succ]
        refine wpAnyH_take (i := 1) (v := ?_) (by simp only [List.getElem?_toArray, List.getElem?_cons_succ, List.getElem?_cons_zero]; rfl) (by kernel_rfl) (by kernel_rfl) (by kernel_rfl) (fun _ _ _ h => h) (Or.inl ⟨by rfl, ?_⟩) (by assumption) ?_
        rotate_left
        · intro w hSw
          try dsimp only at hSw
          go_simp
          try with_reducible rfl
        try simp only [Act.put, List.setIfInBounds_toArray, List.set_cons_zero, List.set_cons_succ]
        refine wpAnyH_take (i := 2) (v := ?_) (by simp only [List.getElem?_toArray, List.getElem?_cons_succ, List.getElem?_cons_zero]; rfl) (by kernel_rfl) (by kernel_rfl) (by kernel_rfl) (fun _ _ _ h => h) (Or.inl ⟨by rfl, ?_⟩) (by assumption) ?_
        rotate_left
        · intro w hSw
          try dsimp only at hSw
          go_simp
          try with_reducible rfl
        try simp only [Act.put, List.setIfInBounds_toArray, List.set_cons_zero, List.set_cons_succ]
        refine wpAnyH_take (i := 3) (v := ?_) (by simp only [List.getElem?_toArray, List.getElem?_cons_succ, List.getElem?_cons_zero]; rfl) (by kernel_rfl) (by kernel_rfl) (by kernel_rfl) (fun _ _ _ h => h) (Or.inl ⟨by rfl, ?_⟩) (by assumption) ?_
        rotate_left
        · intro w hSw
          try dsimp only at hSw
          go_simp
          try with_reducible rfl
        try simp only [Act.put, List.setIfInBounds_toArray, List.set_cons_zero, List.set_cons_succ]
        refine wpAnyH_take (i := 4) (v := ?_) (by simp only [List.getElem?_toArray, List.getElem?_cons_succ, List.getElem?_cons_zero]; rfl) (by kernel_rfl) (by kernel_rfl) (by kernel_rfl) (fun _ _ _ h => h) (Or.inl ⟨by rfl, ?_⟩) (by assumption) ?_
        rotate_left
        · intro w hSw
          try dsimp only at hSw
          go_simp
          try with_reducible rfl
        try simp only [Act.put, List.setIfInBounds_toArray, List.set_cons_zero, List.set_cons_succ]
        refine wpAnyH_ready (rs := [5]) (by kernel_rfl) (by simp) ?_
        refine AllReadyH.cons (by simp only [List.getElem?_toArray, List.getElem?_cons_succ, List.getElem?_cons_zero]; rfl) (fun K hK => ?_) AllReadyH.nil
        go_simp
        refine (khas (KD.out.re) 1 rfl (by dsimp only; decide) x).mono ?_
        rintro e w2 ⟨rfl, kk⟩
        rw [show (decide (0 ≤ x) && hasB (Ent.mk v2 X 12).l x) = true from HH.out]
        have KH := Lib.hid (KD.out.frm kk)
        have SH := Lib.hid (SD.out.kb kk.bel)
        have d1 := (kk.bel.cell (World.block_lt_of_cell? _ _ CD1.out)).trans CD1.out
        clear kk
        go_wp2_with fail
        refine hK.out _ _ d1 (fun hHeld => ?_)
        clear hK K
        try simp only [Act.put, List.setIfInBounds_toArray, List.set_cons_zero, List.set_cons_succ]
        refine wpAnyH_take (i := 6) (v := ?_) (by simp only [List.getElem?_toArray, List.getElem?_cons_succ, List.getElem?_cons_zero]; rfl) (by kernel_rfl) (by kernel_rfl) (by kernel_rfl) (fun _ _ _ h => h) (Or.inl ⟨by rfl, ?_⟩) (by assumption) ?_
        rotate_left
        · intro w hSw
          try dsimp only at hSw
          go_simp
          try with_reducible rfl
        try simp only [Act.put, List.setIfInBounds_toArray, List.set_cons_zero, List.set_cons_succ]
        refine wpAnyH_take (i := 7) (v := ?_) (by simp only [List.getElem?_toArray, List.getElem?_cons_succ, List.getElem?_cons_zero]; rfl) (by kernel_rfl) (by kernel_rfl) (by kernel_rfl) (fun _ _ _ h => h) (Or.inl ⟨by rfl, ?_⟩) (by assumption) ?_
        rotate_left
        · intro w hSw
          try dsimp only at hSw
          go_simp
          try with_reducible rfl
        try simp only [Act.put, List.setIfInBounds_toArray, List.set_cons_zero, List.set_cons_succ]
        refine wpAnyH_take (i := 8) (v := ?_) (by simp only [List.getElem?_toArray, List.getElem?_cons_succ, List.getElem?_cons_zero]; rfl) (by kernel_rfl) (by kernel_rfl) (by kernel_rfl) (fun _ _ _ h => h) (Or.inl ⟨by rfl, ?_⟩) (by assumption) ?_
        rotate_left
        · intro w hSw
          try dsimp only at hSw
          go_simp
          try with_reducible rfl
        try simp only [Act.put, List.setIfInBounds_toArray, List.set_cons_zero, List.set_cons_succ]
        refine wpAnyH_take (i := 9) (v := ?_) (by simp only [List.getElem?_toArray, List.getElem?_cons_succ, List.getElem?_cons_zero]; rfl) (by kernel_rfl) (by kernel_rfl) (by kernel_rfl) (fun _ _ _ h => h) (Or.inl ⟨by rfl, ?_⟩) (by assumption) ?_
        rotate_left
        · intro w hSw
          try dsimp only at hSw
          go_simp
          try with_reducible rfl
        try simp only [Act.put, List.setIfInBounds_toArray, List.set_cons_zero, List.set_cons_succ]
        refine wpAnyH_take (i := 10) (v := ?_) (by simp only [List.getElem?_toArray, List.getElem?_cons_succ, List.getElem?_cons_zero]; rfl) (by kernel_rfl) (by kernel_rfl) (by kernel_rfl) (fun _ _ _ h => h) (Or.inl ⟨by rfl, ?_⟩) (by assumption) ?_
        rotate_left
        · intro w hSw
          try dsimp only at hSw
          go_simp
          try with_reducible rfl
        try simp only [Act.put, List.setIfInBounds_toArray, List.set_cons_zero, List.set_cons_succ]
        refine wpAnyH_take (i := 11) (v := undef) (by simp only [List.getElem?_toArray, List.getElem?_cons_succ, List.getElem?_cons_zero]; rfl) (by kernel_rfl) (by kernel_rfl) (by kernel_rfl) (fun _ _ _ h => h) (Or.inr ⟨by rfl, rfl⟩) (by assumption) ?_
        try simp only [Act.put, List.setIfInBounds_toArray, List.set_cons_zero, List.set_cons_succ]
        refine wpAnyH_take (i := 12) (v := undef) (by simp only [List.getElem?_toArray, List.getElem?_cons_succ, List.getElem?_cons_zero]; rfl) (by kernel_rfl) (by kernel_rfl) (by kernel_rfl) (fun _ _ _ h => h) (Or.inr ⟨by rfl, rfl⟩) (by assumption) ?_
        try simp only [Act.put, List.setIfInBounds_toArray, List.set_cons_zero, List.set_cons_succ]
        refine wpAnyH_take (i := 13) (v := undef) (by simp only [List.getElem?_toArray, List.getElem?_cons_succ, List.getElem?_cons_zero]; rfl) (by kernel_rfl) (by kernel_rfl) (by kernel_rfl) (fun _ _ _ h => h) (Or.inr ⟨by rfl, rfl⟩) (by assumption) ?_
        try simp only [Act.put, List.setIfInBounds_toArray, List.set_cons_zero, List.set_cons_succ]
        refine wpAnyH_take (i := 14) (v := undef) (by simp only [List.getElem?_toArray, List.getElem?_cons_succ, List.getElem?_cons_zero]; rfl) (by kernel_rfl) (by kernel_rfl) (by kernel_rfl) (fun _ _ _ h => h) (Or.inr ⟨by rfl, rfl⟩) (by assumption) ?_
        try simp only [Act.put, List.setIfInBounds_toArray, List.set_cons_zero, List.set_cons_succ]
        refine wpAnyH_take (i := 15) (v := undef) (by simp only [List.getElem?_toArray, List.getElem?_cons_succ, List.getElem?_cons_zero]; rfl) (by kernel_rfl) (by kernel_rfl) (by kernel_rfl) (fun _ _ _ h => h) (Or.inr ⟨by rfl, rfl⟩) (by assumption) ?_
        try simp only [Act.put, List.setIfInBounds_toArray, List.set_cons_zero, List.set_cons_succ]
        refine wpAnyH_take (i := 16) (v := undef) (by simp only [List.getElem?_toArray, List.getElem?_cons_succ, List.getElem?_cons_zero]; rfl) (by kernel_rfl) (by kernel_rfl) (by kernel_rfl) (fun _ _ _ h => h) (Or.inr ⟨by rfl, rfl⟩) (by assumption) ?_
        try simp only [Act.put, List.setIfInBounds_toArray, List.set_cons_zero, List.set_cons_succ]
        refine wpAnyH_take (i := 17) (v := undef) (by simp only [List.getElem?_toArray, List.getElem?_cons_succ, List.getElem?_cons_zero]; rfl) (by kernel_rfl) (by kernel_rfl) (by kernel_rfl) (fun _ _ _ h => h) (Or.inr ⟨by rfl, rfl⟩) (by assumption) ?_
        try simp only [Act.put, List.setIfInBounds_toArray, List.set_cons_zero, List.set_cons_succ]
        refine wpAnyH_take (i := 18) (v := undef) (by simp only [List.getElem?_toArray, List.getElem?_cons_succ, List.getElem?_cons_zero]; rfl) (by kernel_rfl) (by kernel_rfl) (by kernel_rfl) (fun _ _ _ h => h) (Or.inr ⟨by rfl, rfl⟩) (by assumption) ?_
        try simp only [Act.put, List.setIfInBounds_toArray, List.set_cons_zero, List.set_cons_succ]
        refine wpAnyH_take (i := 19) (v := undef) (by simp only [List.getElem?_toArray, List.getElem?_cons_succ, List.getElem?_cons_zero]; rfl) (by kernel_rfl) (by kernel_rfl) (by kernel_rfl) (fun _ _ _ h => h) (Or.inr ⟨by rfl, rfl⟩) (by assumption) ?_
        try simp only [Act.put, List.setIfInBounds_toArray, List.set_cons_zero, List.set_cons_succ]
        refine wpAnyH_take (i := 20) (v := undef) (by simp only [List.getElem?_toArray, List.getElem?_cons_succ, List.getElem?_cons_zero]; rfl) (by kernel_rfl) (by kernel_rfl) (by kernel_rfl) (fun _ _ _ h => h) (Or.inr ⟨by rfl, rfl⟩) (by assumption) ?_
        try simp only [Act.put, List.setIfInBounds_toArray, List.set_cons_zero, List.set_cons_succ]
        refine wpAnyH_take (i := 21) (v := ?_) (by simp only [List.getElem?_toArray, List.getElem?_cons_succ, List.getElem?_cons_zero]; rfl) (by kernel_rfl) (by kernel_rfl) (by kernel_rfl) (fun _ _ _ h => h) (Or.inl ⟨by rfl, ?_⟩) (by assumption) ?_
        rotate_left
        · intro w hSw
          try dsimp only at hSw
          go_simp
          try with_reducible rfl
        try simp only [Act.put, List.setIfInBounds_toArray, List.set_cons_zero, List.set_cons_succ]
        refine wpAnyH_take (i := 22) (v := ?_) (by simp only [List.getElem?_toArray, List.getElem?_cons_succ, List.getElem?_cons_zero]; rfl) (by kernel_rfl) (by kernel_rfl) (by kernel_rfl) (fun _ _ _ h => h) (Or.inl ⟨by rfl, ?_⟩) (by assumption) ?_
        rotate_left
        · intro w hSw
          try dsimp only at hSw
          go_simp
          try with_reducible rfl
        try simp only [Act.put, List.setIfInBounds_toArray, List.set_cons_zero, List.set_cons_succ]
        refine wpAnyH_done (by kernel_rfl) ?_ _
        refine NoPanic.normal ?_
        go_wp2_with fail
        exact ⟨⟨1, by omega, rfl, KH, SH⟩, by simp [intOf]; omega⟩
      | succ k =>
        have hkl2 : k < E.length := by omega
        obtain ⟨a', e', c2⟩ := SL.out.at hkl2
        obtain rfl : a = a' := by injection e'
        obtain ⟨y, hy⟩ : ∃ y, y = E[k] := ⟨_, rfl⟩
        have hyk : E[k]? = some y := by rw [hy]; exact List.getElem?_eq_getElem hkl2
        rw [← hy] at c2
        have hxy : x < y := NX.out.desc k y x (by rw [← HE.out]; exact hyk) (by rw [← HE.out]; exact HXK.out)
        have dxy : decide (x ≥ y) = false := by simp; omega
        have dxy2 : decide (y ≤ x) = false := by simp; omega
        have hw2 : wrap64 ((k : Int) + 1 - 1) = (k : Int) := by unfold wrap64; omega
        have hw3 : IntKind.i64.wrap (k : Int) = (k : Int) := by rw [wrap64_eq]; unfold wrap64; omega
        have hk2 : (k : Int) < ne := by omega
        have hpos : 0 < (k : Int) + 1 := by omega
        have hge : 0 ≤ (k : Int) + 1 := by omega
        have C2 := Lib.hid c2
        clear hy hyk e' hxy
        have KD := Lib.hid (kp_drew KL.out)
        have SD : Hid (NSeen wr.drew (.slice (some a) ne cl) E) := Lib.hid SL.out
        have CD1 : Hid (wr.drew.cell? { block := a.block, off := a.off + (k + 1) } = some (.int .i64 x)) := Lib.hid C1.out
        have CD2 : Hid (wr.drew.cell? (a.add k) = some (.int .i64 y)) := Lib.hid C2.out
        go_wp2_with fail
        try simp only [List.append]
        refine wp_region_noPanic ?_
        refine wp_region_held_drew (S := (fun W => W.cell? { block := a.block, off := a.off + (k + 1) } = some (.int .i64 x) ∧ W.cell? (a.add k) = some (.int .i64 y))) (by kernel_rfl) ⟨c1, c2⟩ (fun hHeld => ?_)
        refine wpAnyH_take (i := 0) (v := ?_) (by simp only [List.getElem?_toArray, List.getElem?_cons_zero]; rfl) (by kernel_rfl) (by kernel_rfl) (by kernel_rfl) (fun _ _ _ h => h) (Or.inl ⟨by rfl, ?_⟩) (by assumption) ?_
        rotate_left
        · intro w hSw
          try dsimp only at hSw
          go_simp
          try with_reducible rfl
        try simp only [Act.put, List.setIfInBounds_toArray, List.set_cons_zero, List.set_cons_succ]
        refine wpAnyH_take (i := 1) (v := ?_) (by simp only [List.getElem?_toArray, List.getElem?_cons_succ, List.getElem?_cons_zero]; rfl) (by kernel_rfl) (by kernel_rfl) (by kernel_rfl) (fun _ _ _ h => h) (Or.inl ⟨by rfl, ?_⟩) (by assumption) ?_
        rotate_left
        · intro w hSw
          try dsimp only at hSw
          go_simp
          try with_reducible rfl
        try simp only [Act.put, List.setIfInBounds_toArray, List.set_cons_zero, List.set_cons_succ]
        refine wpAnyH_take (i := 2) (v := ?_) (by simp only [List.getElem?_toArray, List.getElem?_cons_succ, List.getElem?_cons_zero]; rfl) (by kernel_rfl) (by kernel_rfl) (by kernel_rfl) (fun _ _ _ h => h) (Or.inl ⟨by rfl, ?_⟩) (by assumption) ?_
        rotate_left
        · intro w hSw
          try dsimp only at hSw
          go_simp
          try with_reducible rfl
        try simp only [Act.put, List.setIfInBounds_toArray, List.set_cons_zero, List.set_cons_succ]
        refine wpAnyH_take (i := 3) (v := ?_) (by simp only [List.getElem?_toArray, List.getElem?_cons_succ, List.getElem?_cons_zero]; rfl) (by kernel_rfl) (by kernel_rfl) (by kernel_rfl) (fun _ _ _ h => h) (Or.inl ⟨by rfl, ?_⟩) (by assumption) ?_
        rotate_left
        · intro w hSw
          try dsimp only at hSw
          go_simp
          try with_reducible rfl
        try simp only [Act.put, List.setIfInBounds_toArray, List.set_cons_zero, List.set_cons_succ]
        refine wpAnyH_take (i := 4) (v := ?_) (by simp only [List.getElem?_toArray, List.getElem?_cons_succ, List.getElem?_cons_zero]; rfl) (by kernel_rfl) (by kernel_rfl) (by kernel_rfl) (fun _ _ _ h => h) (Or.inl ⟨by rfl, ?_⟩) (by assumption) ?_
        rotate_left
        · intro w hSw
          try dsimp only at hSw
          go_simp
          try with_reducible rfl
        try simp only [Act.put, List.setIfInBounds_toArray, List.set_cons_zero, List.set_cons_succ]
        refine wpAnyH_ready (rs := [5]) (by kernel_rfl) (by simp) ?_
        refine AllReadyH.cons (by simp only [List.getElem?_toArray, List.getElem?_cons_succ, List.getElem?_cons_zero]; rfl) (fun K hK => ?_) AllReadyH.nil
        go_simp
        refine (khas (KD.out.re) 1 rfl (by dsimp only; decide) x).mono ?_
        rintro e w2 ⟨rfl, kk⟩
        rw [show (decide (0 ≤ x) && hasB (Ent.mk v2 X 12).l x) = true from HH.out]
        have KH := Lib.hid (KD.out.frm kk)
        have SH := Lib.hid (SD.out.kb kk.bel)
        have d1 := (kk.bel.cell (World.block_lt_of_cell? _ _ CD1.out)).trans CD1.out
        have d2 := (kk.bel.cell (World.block_lt_of_cell? _ _ CD2.out)).trans CD2.out
        clear kk
        go_wp2_with fail
        refine hK.out _ _ ⟨d1, d2⟩ (fun hHeld => ?_)
        clear hK K
        try simp only [Act.put, List.setIfInBounds_toArray, List.set_cons_zero, List.set_cons_succ]
        refine wpAnyH_take (i := 6) (v := ?_) (by simp only [List.getElem?_toArray, List.getElem?_cons_succ, List.getElem?_cons_zero]; rfl) (by kernel_rfl) (by kernel_rfl) (by kernel_rfl) (fun _ _ _ h => h) (Or.inl ⟨by rfl, ?_⟩) (by assumption) ?_
        rotate_left
        · intro w hSw
          try dsimp only at hSw
          go_simp
          try with_reducible rfl
        try simp only [Act.put, List.setIfInBounds_toArray, List.set_cons_zero, List.set_cons_succ]
        refine wpAnyH_take (i := 7) (v := ?_) (by simp only [List.getElem?_toArray, List.getElem?_cons_succ, List.getElem?_cons_zero]; rfl) (by kernel_rfl) (by kernel_rfl) (by kernel_rfl) (fun _ _ _ h => h) (Or.inl ⟨by rfl, ?_⟩) (by assumption) ?_
        rotate_left
        · intro w hSw
          try dsimp only at hSw
          go_simp
          try with_reducible rfl
        try simp only [Act.put, List.setIfInBounds_toArray, List.set_cons_zero, List.set_cons_succ]
        refine wpAnyH_take (i := 8) (v := ?_) (by simp only [List.getElem?_toArray, List.getElem?_cons_succ, List.getElem?_cons_zero]; rfl) (by kernel_rfl) (by kernel_rfl) (by kernel_rfl) (fun _ _ _ h => h) (Or.inl ⟨by rfl, ?_⟩) (by assumption) ?_
        rotate_left
        · intro w hSw
          try dsimp only at hSw
          go_simp
          try with_reducible rfl
        try simp only [Act.put, List.setIfInBounds_toArray, List.set_cons_zero, List.set_cons_succ]
        refine wpAnyH_take (i := 9) (v := ?_) (by simp only [List.getElem?_toArray, List.getElem?_cons_succ, List.getElem?_cons_zero]; rfl) (by kernel_rfl) (by kernel_rfl) (by kernel_rfl) (fun _ _ _ h => h) (Or.inl ⟨by rfl, ?_⟩) (by assumption) ?_
        rotate_left
        · intro w hSw
          try dsimp only at hSw
          go_simp
          try with_reducible rfl
        try simp only [Act.put, List.setIfInBounds_toArray, List.set_cons_zero, List.set_cons_succ]
        refine wpAnyH_take (i := 10) (v := ?_) (by simp only [List.getElem?_toArray, List.getElem?_cons_succ, List.getElem?_cons_zero]; rfl) (by kernel_rfl) (by kernel_rfl) (by kernel_rfl) (fun _ _ _ h => h) (Or.inl ⟨by rfl, ?_⟩) (by assumption) ?_
        rotate_left
        · intro w hSw
          try dsimp only at hSw
          go_simp
          try with_reducible rfl
        try simp only [Act.put, List.setIfInBounds_toArray, List.set_cons_zero, List.set_cons_succ]
        refine wpAnyH_take (i := 11) (v := ?_) (by simp only [List.getElem?_toArray, List.getElem?_cons_succ, List.getElem?_cons_zero]; rfl) (by kernel_rfl) (by kernel_rfl) (by kernel_rfl) (fun _ _ _ h => h) (Or.inl ⟨by rfl, ?_⟩) (by assumption) ?_
        rotate_left
        · intro w hSw
          try dsimp only at hSw
          go_simp
          try with_reducible rfl
        try simp only [Act.put, List.setIfInBounds_toArray, List.set_cons_zero, List.set_cons_succ]
        refine wpAnyH_take (i := 12) (v := ?_) (by simp only [List.getElem?_toArray, List.getElem?_cons_succ, List.getElem?_cons_zero]; rfl) (by kernel_rfl) (by kernel_rfl) (by kernel_rfl) (fun _ _ _ h => h) (Or.inl ⟨by rfl, ?_⟩) (by assumption) ?_
        rotate_left
        · intro w hSw
          try dsimp only at hSw
          go_simp
          try with_reducible rfl
        try simp only [Act.put, List.setIfInBounds_toArray, List.set_cons_zero, List.set_cons_succ]
        refine wpAnyH_take (i := 13) (v := ?_) (by simp only [List.getElem?_toArray, List.getElem?_cons_succ, List.getElem?_cons_zero]; rfl) (by kernel_rfl) (by kernel_rfl) (by kernel_rfl) (fun _ _ _ h => h) (Or.inl ⟨by rfl, ?_⟩) (by assumption) ?_
        rotate_left
        · intro w hSw
          try dsimp only at hSw
          go_simp
          try with_reducible rfl
        try simp only [Act.put, List.setIfInBounds_toArray, List.set_cons_zero, List.set_cons_succ]
        refine wpAnyH_take (i := 14) (v := ?_) (by simp only [List.getElem?_toArray, List.getElem?_cons_succ, List.getElem?_cons_zero]; rfl) (by kernel_rfl) (by kernel_rfl) (by kernel_rfl) (fun _ _ _ h => h) (Or.inl ⟨by rfl, ?_⟩) (by assumption) ?_
        rotate_left
        · intro w hSw
          try dsimp only at hSw
          go_simp
          try with_reducible rfl
        try simp only [Act.put, List.setIfInBounds_toArray, List.set_cons_zero, List.set_cons_succ]
        refine wpAnyH_take (i := 15) (v := ?_) (by simp only [List.getElem?_toArray, List.getElem?_cons_succ, List.getElem?_cons_zero]; rfl) (by kernel_rfl) (by kernel_rfl) (by kernel_rfl) (fun _ _ _ h => h) (Or.inl ⟨by rfl, ?_⟩) (by assumption) ?_
        rotate_left
        · intro w hSw
          try dsimp only at hSw
          go_simp
          try with_reducible rfl
        try simp only [Act.put, List.setIfInBounds_toArray, List.set_cons_zero, List.set_cons_succ]
        refine wpAnyH_take (i := 16) (v := ?_) (by simp only [List.getElem?_toArray, List.getElem?_cons_succ, List.getElem?_cons_zero]; rfl) (by kernel_rfl) (by kernel_rfl) (by kernel_rfl) (fun _ _ _ h => h) (Or.inl ⟨by rfl, ?_⟩) (by assumption) ?_
        rotate_left
        · intro w hSw
          try dsimp only at hSw
          go_simp
          try with_reducible rfl
        try simp only [Act.put, List.setIfInBounds_toArray, List.set_cons_zero, List.set_cons_succ]
        refine wpAnyH_take (i := 17) (v := (.int .i64 (k : Nat))) (by simp only [List.getElem?_toArray, List.getElem?_cons_succ, List.getElem?_cons_zero]; rfl) (by kernel_rfl) (by kernel_rfl) (by kernel_rfl) (fun _ _ _ h => h) (Or.inl ⟨by rfl, ?_⟩) (by assumption) ?_
        · intro w hSw
          try dsimp only at hSw
          go_simp
        try simp only [Act.put, List.setIfInBounds_toArray, List.set_cons_zero, List.set_cons_succ]
        refine wpAnyH_take (i := 18) (v := ?_) (by simp only [List.getElem?_toArray, List.getElem?_cons_succ, List.getElem?_cons_zero]; rfl) (by kernel_rfl) (by kernel_rfl) (by kernel_rfl) (fun _ _ _ h => h) (Or.inl ⟨by rfl, ?_⟩) (by assumption) ?_
        rotate_left
        · intro w hSw
          try dsimp only at hSw
          go_simp
          try with_reducible rfl
        try simp only [Act.put, List.setIfInBounds_toArray, List.set_cons_zero, List.set_cons_succ]
        refine wpAnyH_take (i := 19) (v := ?_) (by simp only [List.getElem?_toArray, List.getElem?_cons_succ, List.getElem?_cons_zero]; rfl) (by kernel_rfl) (by kernel_rfl) (by kernel_rfl) (fun _ _ _ h => h) (Or.inl ⟨by rfl, ?_⟩) (by assumption) ?_
        rotate_left
        · intro w hSw
          try dsimp only at hSw
          go_simp
          try with_reducible rfl
        try simp only [Act.put, List.setIfInBounds_toArray, List.set_cons_zero, List.set_cons_succ]
        refine wpAnyH_take (i := 20) (v := ?_) (by simp only [List.getElem?_toArray, List.getElem?_cons_succ, List.getElem?_cons_zero]; rfl) (by kernel_rfl) (by kernel_rfl) (by kernel_rfl) (fun _ _ _ h => h) (Or.inl ⟨by rfl, ?_⟩) (by assumption) ?_
        rotate_left
        · intro w hSw
          try dsimp only at hSw
          go_simp
          try with_reducible rfl
        try simp only [Act.put, List.setIfInBounds_toArray, List.set_cons_zero, List.set_cons_succ]
        refine wpAnyH_take (i := 21) (v := ?_) (by simp only [List.getElem?_toArray, List.getElem?_cons_succ, List.getElem?_cons_zero]; rfl) (by kernel_rfl) (by kernel_rfl) (by kernel_rfl) (fun _ _ _ h => h) (Or.inl ⟨by rfl, ?_⟩) (by assumption) ?_
        rotate_left
        · intro w hSw
          try dsimp only at hSw
          go_simp
          try with_reducible rfl
        try simp only [Act.put, List.setIfInBounds_toArray, List.set_cons_zero, List.set_cons_succ]
        refine wpAnyH_take (i := 22) (v := ?_) (by simp only [List.getElem?_toArray, List.getElem?_cons_succ, List.getElem?_cons_zero]; rfl) (by kernel_rfl) (by kernel_rfl) (by kernel_rfl) (fun _ _ _ h => h) (Or.inl ⟨by rfl, ?_⟩) (by assumption) ?_
        rotate_left
        · intro w hSw
          try dsimp only at hSw
          go_simp
          try with_reducible rfl
        try simp only [Act.put, List.setIfInBounds_toArray, List.set_cons_zero, List.set_cons_succ]
        refine wpAnyH_done (by kernel_rfl) ?_ _
        refine NoPanic.normal ?_
        go_wp2_with fail
        exact ⟨⟨k + 2, by omega, by go_num, KH, SH⟩, by simp [intOf]; omega⟩
    · obtain rfl : k = ne := by omega
      go_wp2_with fail
      refine (pick_any _ n 30 (by decide) (by decide)).mono ?_
      rintro e wp ⟨rfl, rfl⟩
      have K10 := Lib.hid KL.out
      have S10 := Lib.hid SL.out
      clear KL SL
      have hn30 : n % 30 < 9223372036854775808 := by omega
      obtain ⟨qn, hqn⟩ : ∃ qn : Nat, n % 30 = qn := ⟨(n % 30).toNat, by omega⟩
      rw [hqn] at hn30 ⊢
      have hNG := numg_facts HXN.out T1.out qn k (by rw [← HE.out]; exact HNE.out)
      obtain ⟨m, hm⟩ : ∃ m, m = min qn k := ⟨_, rfl⟩
      rw [← hm] at hNG
      have NG := Lib.hid hNG
      have hmk : m ≤ k := by omega
      have hmin := hNG.hmin
      clear hm hNG hqn hk hlt
      go_wp2_with fail
      refine (kfirst K10.out.re 1 rfl (by dsimp only; decide) qn (by omega)).mono ?_
      rintro e w11 ⟨v11, rfl, kk⟩
      have S11 := Lib.hid (S10.out.kb kk.bel)
      have K11 := Lib.hid (K10.out.frm kk)
      clear kk K10 S10
      go_wp2_with fail
      refine (kids K11.out.re 0 rfl (by dsimp only; decide) 1000 (by decide) NG.out.f2).mono ?_
      rintro e w12 ⟨v12, rfl, o, kk⟩
      dsimp only at o
      rw [NG.out.f1, ← HE.out] at o
      have S12 := Lib.hid (S11.out.kb kk.bel)
      have F12 := Lib.hid o.seen
      have K12 := Lib.hid (K11.out.frm kk)
      clear kk K11 S11 o
      go_wp2_with fail
      refine (klast K12.out.re 2 rfl (by dsimp only; decide) qn (by omega)).mono ?_
      rintro e w13 ⟨v13, rfl, kk⟩
      have S13 := Lib.hid (S12.out.kb kk.bel)
      have F13 := Lib.hid (F12.out.kb kk.bel)
      have K13 := Lib.hid (K12.out.frm kk)
      clear kk K12 S12 F12
      go_wp2_with fail
      refine (kids K13.out.re 0 rfl (by dsimp only; decide) 1000 (by decide) NG.out.g2).mono ?_
      rintro e w14 ⟨v14, rfl, o, kk⟩
      dsimp only at o
      rw [NG.out.g1, ← HE.out] at o
      have S14 := Lib.hid (S13.out.kb kk.bel)
      have F14 := Lib.hid (F13.out.kb kk.bel)
      have G14 := Lib.hid o.seen
      have K14 := Lib.hid (K13.out.frm kk)
      clear kk K13 S13 F13 o
      go_wp2_with fail
      have hcap : k ≤ cl := S14.out.cap
      have a1 : (m : Int) ≤ (cl : Int) := by omega
      have a2 : (0 : Int) ≤ (m : Int) := by omega
      have a3 : (k : Int) - (m : Int) = ((k - m : Nat) : Int) := by omega
      obtain ⟨d, hd⟩ : ∃ d : Nat, d = k - m := ⟨_, rfl⟩
      have hdk : k - d = m := by omega
      rw [← hd] at a3 G14
      have a4 : wrap64 ((k : Int) - (m : Int)) = (d : Int) := by rw [a3]; unfold wrap64; omega
      have a5 : IntKind.i64.wrap (d : Int) = (d : Int) := by rw [wrap64_eq]; unfold wrap64; omega
      have a6 : (d : Int) ≤ (k : Int) := by omega
      have a7 : 0 ≤ (d : Int) := by omega
      have HKD := Lib.hid hd.symm
      clear hd
      have S14d : Hid (NSeen w14.drew (.slice pl k cl) E) := Lib.hid S14.out
      have F14d : Hid (NSeen w14.drew v12 (E.take m)) := Lib.hid F14.out
      have G14d : Hid (NSeen w14.drew v14 (E.drop d)) := Lib.hid G14.out
      have K14d := Lib.hid (kp_drew K14.out)
      clear S14 F14 G14 K14
      try simp only [List.append]
      refine wp_region_noPanic ?_
      refine wp_region_held_drew (S := (fun _ => True)) (by kernel_rfl) trivial (fun hHeld => ?_)
      refine wpAnyH_take (i := 0) (v := ?_) (by simp only [List.getElem?_toArray, List.getElem?_cons_zero]; rfl) (by kernel_rfl) (by kernel_rfl) (by kernel_rfl) (fun _ _ _ h => h) (Or.inl ⟨by rfl, ?_⟩) (by assumption) ?_
      rotate_left
      · intro w hSw
        try dsimp only at hSw
        go_simp
        try with_reducible rfl
      try simp only [Act.put, List.setIfInBounds_toArray, List.set_cons_zero, List.set_cons_succ]
      refine wpAnyH_take (i := 1) (v := ?_) (by simp only [List.getElem?_toArray, List.getElem?_cons_succ, List.getElem?_cons_zero]; rfl) (by kernel_rfl) (by kernel_rfl) (by kernel_rfl) (fun _ _ _ h => h) (Or.inl ⟨by rfl, ?_⟩) (by assumption) ?_
      rotate_left
      · intro w hSw
        try dsimp only at hSw
        go_simp
        try with_reducible rfl
      try simp only [Act.put, List.setIfInBounds_toArray, List.set_cons_zero, List.set_cons_succ]
      refine wpAnyH_take (i := 2) (v := ?_) (by simp only [List.getElem?_toArray, List.getElem?_cons_succ, List.getElem?_cons_zero]; rfl) (by kernel_rfl) (by kernel_rfl) (by kernel_rfl) (fun _ _ _ h => h) (Or.inl ⟨by rfl, ?_⟩) (by assumption) ?_
      rotate_left
      · intro w hSw
        try dsimp only at hSw
        go_simp
        try with_reducible rfl
      try simp only [Act.put, List.setIfInBounds_toArray, List.set_cons_zero, List.set_cons_succ]
      refine wpAnyH_take (i := 3) (v := (.slice pl m cl)) (by simp only [List.getElem?_toArray, List.getElem?_cons_succ, List.getElem?_cons_zero]; rfl) (by kernel_rfl) (by kernel_rfl) (by kernel_rfl) (fun _ _ _ h => h) (Or.inl ⟨by rfl, ?_⟩) (by assumption) ?_
      · intro w hSw
        try dsimp only at hSw
        go_simp
      try simp only [Act.put, List.setIfInBounds_toArray, List.set_cons_zero, List.set_cons_succ]
      refine wpAnyH_ready (rs := [4]) (by kernel_rfl) (by simp) ?_
      refine AllReadyH.cons (by simp only [List.getElem?_toArray, List.getElem?_cons_succ, List.getElem?_cons_zero]; rfl) (fun K hK => ?_) AllReadyH.nil
      go_simp
      have HLM : Hid ((E.take m).length ≤ 1000000000) := Lib.hid (by rw [List.length_take]; omega)
      refine (sameInts_to _ v12 (.slice pl m cl) _ _ F14d.out (S14d.out.take (by rw [← HNE.out]; exact hmk)) (by exact HLM.out)).mono ?_
      rintro e wz ⟨⟨r, rfl, hr⟩, bz⟩
      obtain rfl : r = true := hr.2 rfl
      clear hr
      have S15 := Lib.hid (S14d.out.kb bz)
      have G15 := Lib.hid (G14d.out.kb bz)
      have K15 := Lib.hid (K14d.out.next bz)
      clear S14d G14d K14d F14d bz
      go_wp2_with fail
      refine hK.out _ _ trivial (fun hHeld => ?_)
      clear hK K
      try simp only [Act.put, List.setIfInBounds_toArray, List.set_cons_zero, List.set_cons_succ]
      refine wpAnyH_take (i := 5) (v := ?_) (by simp only [List.getElem?_toArray, List.getElem?_cons_succ, List.getElem?_cons_zero]; rfl) (by kernel_rfl) (by kernel_rfl) (by kernel_rfl) (fun _ _ _ h => h) (Or.inl ⟨by rfl, ?_⟩) (by assumption) ?_
      rotate_left
      · intro w hSw
        try dsimp only at hSw
        go_simp
        try with_reducible rfl
      try simp only [Act.put, List.setIfInBounds_toArray, List.set_cons_zero, List.set_cons_succ]
      refine wpAnyH_take (i := 6) (v := ?_) (by simp only [List.getElem?_toArray, List.getElem?_cons_succ, List.getElem?_cons_zero]; rfl) (by kernel_rfl) (by kernel_rfl) (by kernel_rfl) (fun _ _ _ h => h) (Or.inl ⟨by rfl, ?_⟩) (by assumption) ?_
      rotate_left
      · intro w hSw
        try dsimp only at hSw
        go_simp
        try with_reducible rfl
      try simp only [Act.put, List.setIfInBounds_toArray, List.set_cons_zero, List.set_cons_succ]
      refine wpAnyH_take (i := 7) (v := ?_) (by simp only [List.getElem?_toArray, List.getElem?_cons_succ, List.getElem?_cons_zero]; rfl) (by kernel_rfl) (by kernel_rfl) (by kernel_rfl) (fun _ _ _ h => h) (Or.inl ⟨by rfl, ?_⟩) (by assumption) ?_
      rotate_left
      · intro w hSw
        try dsimp only at hSw
        go_simp
        try with_reducible rfl
      try simp only [Act.put, List.setIfInBounds_toArray, List.set_cons_zero, List.set_cons_succ]
      refine wpAnyH_take (i := 8) (v := ?_) (by simp only [List.getElem?_toArray, List.getElem?_cons_succ, List.getElem?_cons_zero]; rfl) (by kernel_rfl) (by kernel_rfl) (by kernel_rfl) (fun _ _ _ h => h) (Or.inl ⟨by rfl, ?_⟩) (by assumption) ?_
      rotate_left
      · intro w hSw
        try dsimp only at hSw
        go_simp
        try with_reducible rfl
      try simp only [Act.put, List.setIfInBounds_toArray, List.set_cons_zero, List.set_cons_succ]
      refine wpAnyH_take (i := 9) (v := ?_) (by simp only [List.getElem?_toArray, List.getElem?_cons_succ, List.getElem?_cons_zero]; rfl) (by kernel_rfl) (by kernel_rfl) (by kernel_rfl) (fun _ _ _ h => h) (Or.inl ⟨by rfl, ?_⟩) (by assumption) ?_
      rotate_left
      · intro w hSw
        try dsimp only at hSw
        go_simp
        try with_reducible rfl
      try simp only [Act.put, List.setIfInBounds_toArray, List.set_cons_zero, List.set_cons_succ]
      refine wpAnyH_take (i := 10) (v := ?_) (by simp only [List.getElem?_toArray, List.getElem?_cons_succ, List.getElem?_cons_zero]; rfl) (by kernel_rfl) (by kernel_rfl) (by kernel_rfl) (fun _ _ _ h => h) (Or.inl ⟨by rfl, ?_⟩) (by assumption) ?_
      rotate_left
      · intro w hSw
        try dsimp only at hSw
        go_simp
        try with_reducible rfl
      try simp only [Act.put, List.setIfInBounds_toArray, List.set_cons_zero, List.set_cons_succ]
      refine wpAnyH_take (i := 11) (v := (.int .i64 (d : Nat))) (by simp only [List.getElem?_toArray, List.getElem?_cons_succ, List.getElem?_cons_zero]; rfl) (by kernel_rfl) (by kernel_rfl) (by kernel_rfl) (fun _ _ _ h => h) (Or.inl ⟨by rfl, ?_⟩) (by assumption) ?_
      · intro w hSw
        try dsimp only at hSw
        go_simp
      try simp only [Act.put, List.setIfInBounds_toArray, List.set_cons_zero, List.set_cons_succ]
      refine wpAnyH_take (i := 12) (v := ?_) (by simp only [List.getElem?_toArray, List.getElem?_cons_succ, List.getElem?_cons_zero]; rfl) (by kernel_rfl) (by kernel_rfl) (by kernel_rfl) (fun _ _ _ h => h) (Or.inl ⟨by rfl, ?_⟩) (by assumption) ?_
      rotate_left
      · intro w hSw
        try dsimp only at hSw
        go_simp
        try with_reducible rfl
      try simp only [Act.put, List.setIfInBounds_toArray, List.set_cons_zero, List.set_cons_succ]
      refine wpAnyH_ready (rs := [13]) (by kernel_rfl) (by simp) ?_
      refine AllReadyH.cons (by simp only [List.getElem?_toArray, List.getElem?_cons_succ, List.getElem?_cons_zero]; rfl) (fun K hK => ?_) AllReadyH.nil
      go_simp
      have HLD : Hid ( (E.drop d).length ≤ 1000000000) := Lib.hid (by rw [List.length_drop, ← HNE.out]; omega)
      have hT := Lib.hid (S15.out.tail (d := d) (m := m) (by omega) (by omega))
      generalize (if cl = d then pl else Option.map (fun x => x.add d) pl) = px at hT ⊢
      refine (sameInts_to _ v14 _ _ _ G15.out hT.out (by exact HLD.out)).mono ?_
      rintro e wz ⟨⟨r, rfl, hr⟩, bz⟩
      obtain rfl : r = true := hr.2 rfl
      clear hr
      have S16 := Lib.hid (S15.out.kb bz)
      have K16 := Lib.hid (K15.out.next bz)
      clear S15 K15 G15 bz hT
      go_wp2_with fail
      refine hK.out _ _ trivial (fun hHeld => ?_)
      clear hK K
      try simp only [Act.put, List.setIfInBounds_toArray, List.set_cons_zero, List.set_cons_succ]
      refine wpAnyH_take (i := 14) (v := ?_) (by simp only [List.getElem?_toArray, List.getElem?_cons_succ, List.getElem?_cons_zero]; rfl) (by kernel_rfl) (by kernel_rfl) (by kernel_rfl) (fun _ _ _ h => h) (Or.inl ⟨by rfl, ?_⟩) (by assumption) ?_
      rotate_left
      · intro w hSw
        try dsimp only at hSw
        go_simp
        try with_reducible rfl
      try simp only [Act.put, List.setIfInBounds_toArray, List.set_cons_zero, List.set_cons_succ]
      refine wpAnyH_take (i := 15) (v := ?_) (by simp only [List.getElem?_toArray, List.getElem?_cons_succ, List.getElem?_cons_zero]; rfl) (by kernel_rfl) (by kernel_rfl) (by kernel_rfl) (fun _ _ _ h => h) (Or.inl ⟨by rfl, ?_⟩) (by assumption) ?_
      rotate_left
      · intro w hSw
        try dsimp only at hSw
        go_simp
        try with_reducible rfl
      try simp only [Act.put, List.setIfInBounds_toArray, List.set_cons_zero, List.set_cons_succ]
      refine wpAnyH_take (i := 16) (v := ?_) (by simp only [List.getElem?_toArray, List.getElem?_cons_succ, List.getElem?_cons_zero]; rfl) (by kernel_rfl) (by kernel_rfl) (by kernel_rfl) (fun _ _ _ h => h) (Or.inl ⟨by rfl, ?_⟩) (by assumption) ?_
      rotate_left
      · intro w hSw
        try dsimp only at hSw
        go_simp
        try with_reducible rfl
      try simp only [Act.put, List.setIfInBounds_toArray, List.set_cons_zero, List.set_cons_succ]
      refine wpAnyH_take (i := 17) (v := ?_) (by simp only [List.getElem?_toArray, List.getElem?_cons_succ, List.getElem?_cons_zero]; rfl) (by kernel_rfl) (by kernel_rfl) (by kernel_rfl) (fun _ _ _ h => h) (Or.inl ⟨by rfl, ?_⟩) (by assumption) ?_
      rotate_left
      · intro w hSw
        try dsimp only at hSw
        go_simp
        try with_reducible rfl
      try simp only [Act.put, List.setIfInBounds_toArray, List.set_cons_zero, List.set_cons_succ]
      refine wpAnyH_take (i := 19) (v := ?_) (by simp only [List.getElem?_toArray, List.getElem?_cons_succ, List.getElem?_cons_zero]; rfl) (by kernel_rfl) (by kernel_rfl) (by kernel_rfl) (fun _ _ _ h => h) (Or.inl ⟨by rfl, ?_⟩) (by assumption) ?_
      rotate_left
      · intro w hSw
        try dsimp only at hSw
        go_simp
        try with_reducible rfl
      try simp only [Act.put, List.setIfInBounds_toArray, List.set_cons_zero, List.set_cons_succ]
      refine wpAnyH_take (i := 20) (v := ?_) (by simp only [List.getElem?_toArray, List.getElem?_cons_succ, List.getElem?_cons_zero]; rfl) (by kernel_rfl) (by kernel_rfl) (by kernel_rfl) (fun _ _ _ h => h) (Or.inl ⟨by rfl, ?_⟩) (by assumption) ?_
      rotate_left
      · intro w hSw
        try dsimp only at hSw
        go_simp
        try with_reducible rfl
      try simp only [Act.put, List.setIfInBounds_toArray, List.set_cons_zero, List.set_cons_succ]
      refine wpAnyH_take (i := 21) (v := (.slice pl m cl)) (by simp only [List.getElem?_toArray, List.getElem?_cons_succ, List.getElem?_cons_zero]; rfl) (by kernel_rfl) (by kernel_rfl) (by kernel_rfl) (fun _ _ _ h => h) (Or.inl ⟨by rfl, ?_⟩) (by assumption) ?_
      · intro w hSw
        try dsimp only at hSw
        go_simp
      try simp only [Act.put, List.setIfInBounds_toArray, List.set_cons_zero, List.set_cons_succ]
      refine wpAnyH_ready (rs := [18]) (by kernel_rfl) (by simp) ?_
      refine AllReadyH.cons (by simp only [List.getElem?_toArray, List.getElem?_cons_succ, List.getElem?_cons_zero]; rfl) (fun K hK => ?_) AllReadyH.nil
      go_simp
      refine (kids K16.out.re 3 rfl (by dsimp only; decide) qn (by omega) NG.out.h2).mono ?_
      rintro e wi ⟨vi, rfl, o, kk⟩
      dsimp only at o
      rw [NG.out.h1, ← HE.out] at o
      have S17 := Lib.hid (S16.out.kb kk.bel)
      have I17 := Lib.hid o.seen
      have K17 := Lib.hid (K16.out.frm kk)
      clear kk o S16 K16
      go_wp2_with fail
      refine hK.out _ _ trivial (fun hHeld => ?_)
      clear hK K
      try simp only [Act.put, List.setIfInBounds_toArray, List.set_cons_zero, List.set_cons_succ]
      refine wpAnyH_ready (rs := [22]) (by kernel_rfl) (by simp) ?_
      refine AllReadyH.cons (by simp only [List.getElem?_toArray, List.getElem?_cons_succ, List.getElem?_cons_zero]; rfl) (fun K hK => ?_) AllReadyH.nil
      go_simp
      refine (sameInts_to _ vi (.slice pl m cl) _ _ I17.out (S17.out.take (by rw [← HNE.out]; exact hmk)) (by exact HLM.out)).mono ?_
      rintro e wz ⟨⟨r, rfl, hr⟩, bz⟩
      obtain rfl : r = true := hr.2 rfl
      clear hr
      have S18 := Lib.hid (S17.out.kb bz)
      have K18 := Lib.hid (K17.out.next bz)
      clear S17 K17 I17 bz
      go_wp2_with fail
      refine hK.out _ _ trivial (fun hHeld => ?_)
      clear hK K
      try simp only [Act.put, List.setIfInBounds_toArray, List.set_cons_zero, List.set_cons_succ]
      refine wpAnyH_take (i := 23) (v := ?_) (by simp only [List.getElem?_toArray, List.getElem?_cons_succ, List.getElem?_cons_zero]; rfl) (by kernel_rfl) (by kernel_rfl) (by kernel_rfl) (fun _ _ _ h => h) (Or.inl ⟨by rfl, ?_⟩) (by assumption) ?_
      rotate_left
      · intro w hSw
        try dsimp only at hSw
        go_simp
        try with_reducible rfl
      try simp only [Act.put, List.setIfInBounds_toArray, List.set_cons_zero, List.set_cons_succ]
      refine wpAnyH_take (i := 24) (v := ?_) (by simp only [List.getElem?_toArray, List.getElem?_cons_succ, List.getElem?_cons_zero]; rfl) (by kernel_rfl) (by kernel_rfl) (by kernel_rfl) (fun _ _ _ h => h) (Or.inl ⟨by rfl, ?_⟩) (by assumption) ?_
      rotate_left
      · intro w hSw
        try dsimp only at hSw
        go_simp
        try with_reducible rfl
      try simp only [Act.put, List.setIfInBounds_toArray, List.set_cons_zero, List.set_cons_succ]
      refine wpAnyH_take (i := 25) (v := ?_) (by simp only [List.getElem?_toArray, List.getElem?_cons_succ, List.getElem?_cons_zero]; rfl) (by kernel_rfl) (by kernel_rfl) (by kernel_rfl) (fun _ _ _ h => h) (Or.inl ⟨by rfl, ?_⟩) (by assumption) ?_
      rotate_left
      · intro w hSw
        try dsimp only at hSw
        go_simp
        try with_reducible rfl
      try simp only [Act.put, List.setIfInBounds_toArray, List.set_cons_zero, List.set_cons_succ]
      refine wpAnyH_take (i := 26) (v := ?_) (by simp only [List.getElem?_toArray, List.getElem?_cons_succ, List.getElem?_cons_zero]; rfl) (by kernel_rfl) (by kernel_rfl) (by kernel_rfl) (fun _ _ _ h => h) (Or.inl ⟨by rfl, ?_⟩) (by assumption) ?_
      rotate_left
      · intro w hSw
        try dsimp only at hSw
        go_simp
        try with_reducible rfl
      try simp only [Act.put, List.setIfInBounds_toArray, List.set_cons_zero, List.set_cons_succ]
      have hkd : k - m = d := HKD.out
      clear hdk
      refine wpAnyH_take (i := 29) (v := ?_) (by simp only [List.getElem?_toArray, List.getElem?_cons_succ, List.getElem?_cons_zero]; rfl) (by kernel_rfl) (by kernel_rfl) (by kernel_rfl) (fun _ _ _ h => h) (Or.inl ⟨by rfl, ?_⟩) (by assumption) ?_
      rotate_left
      · intro w hSw
        try dsimp only at hSw
        go_simp
        try with_reducible rfl
      try simp only [Act.put, List.setIfInBounds_toArray, List.set_cons_zero, List.set_cons_succ]
      refine wpAnyH_take (i := 30) (v := ?_) (by simp only [List.getElem?_toArray, List.getElem?_cons_succ, List.getElem?_cons_zero]; rfl) (by kernel_rfl) (by kernel_rfl) (by kernel_rfl) (fun _ _ _ h => h) (Or.inl ⟨by rfl, ?_⟩) (by assumption) ?_
      rotate_left
      · intro w hSw
        try dsimp only at hSw
        go_simp
        try with_reducible rfl
      try simp only [Act.put, List.setIfInBounds_toArray, List.set_cons_zero, List.set_cons_succ]
      refine wpAnyH_take (i := 31) (v := ?_) (by simp only [List.getElem?_toArray, List.getElem?_cons_succ, List.getElem?_cons_zero]; rfl) (by kernel_rfl) (by kernel_rfl) (by kernel_rfl) (fun _ _ _ h => h) (Or.inl ⟨by rfl, ?_⟩) (by assumption) ?_
      rotate_left
      · intro w hSw
        try dsimp only at hSw
        go_simp
        try with_reducible rfl
      try simp only [Act.put, List.setIfInBounds_toArray, List.set_cons_zero, List.set_cons_succ]
      refine wpAnyH_ready (rs := [27]) (by kernel_rfl) (by simp) ?_
      refine AllReadyH.cons (by simp only [List.getElem?_toArray, List.getElem?_cons_succ, List.getElem?_cons_zero]; rfl) (fun K hK => ?_) AllReadyH.nil
      go_simp
      have hT := Lib.hid (S18.out.tail (d := m) (m := d) (by omega) hkd)
      generalize (if cl = m then pl else Option.map (fun x => x.add m) pl) = py at hT ⊢
      refine (kskip K18.out.re 3 rfl (by dsimp only; decide) qn (by omega)).mono ?_
      rintro e ws ⟨vs, rfl, kk⟩
      have T19 := Lib.hid (hT.out.kb kk.bel)
      have K19 := Lib.hid (K18.out.frm kk)
      clear kk S18 K18 hT
      go_wp2_with fail
      refine hK.out _ _ trivial (fun hHeld => ?_)
      clear hK K
      try simp only [Act.put, List.setIfInBounds_toArray, List.set_cons_zero, List.set_cons_succ]
      refine wpAnyH_ready (rs := [28]) (by kernel_rfl) (by simp) ?_
      refine AllReadyH.cons (by simp only [List.getElem?_toArray, List.getElem?_cons_succ, List.getElem?_cons_zero]; rfl) (fun K hK => ?_) AllReadyH.nil
      go_simp
      refine (kids K19.out.re 0 rfl (by dsimp only; decide) 1000 (by decide) NG.out.s2).mono ?_
      rintro e wj ⟨vj, rfl, o, kk⟩
      dsimp only at o
      rw [NG.out.s1, ← HE.out] at o
      have T20 := Lib.hid (T19.out.kb kk.bel)
      have I20 := Lib.hid o.seen
      have K20 := Lib.hid (K19.out.frm kk)
      clear kk o T19 K19
      go_wp2_with fail
      refine hK.out _ _ trivial (fun hHeld => ?_)
      clear hK K
      try simp only [Act.put, List.setIfInBounds_toArray, List.set_cons_zero, List.set_cons_succ]
      refine wpAnyH_ready (rs := [32]) (by kernel_rfl) (by simp) ?_
      refine AllReadyH.cons (by simp only [List.getElem?_toArray, List.getElem?_cons_succ, List.getElem?_cons_zero]; rfl) (fun K hK => ?_) AllReadyH.nil
      go_simp
      have HLT2 : Hid ( (E.drop m).length ≤ 1000000000) := Lib.hid (by rw [List.length_drop, ← HNE.out]; omega)
      refine (sameInts_to _ vj _ _ _ I20.out T20.out (by exact HLT2.out)).mono ?_
      rintro e wz ⟨⟨r, rfl, hr⟩, bz⟩
      obtain rfl : r = true := hr.2 rfl
      clear hr
      have K21 := Lib.hid (K20.out.next bz)
      clear T20 K20 I20 bz
      go_wp2_with fail
      refine hK.out _ _ trivial (fun hHeld => ?_)
      clear hK K
      try simp only [Act.put, List.setIfInBounds_toArray, List.set_cons_zero, List.set_cons_succ]
      refine wpAnyH_take (i := 33) (v := ?_) (by simp only [List.getElem?_toArray, List.getElem?_cons_succ, List.getElem?_cons_zero]; rfl) (by kernel_rfl) (by kernel_rfl) (by kernel_rfl) (fun _ _ _ h => h) (Or.inl ⟨by rfl, ?_⟩) (by assumption) ?_
      rotate_left
      · intro w hSw
        try dsimp only at hSw
        go_simp
        try with_reducible rfl
      try simp only [Act.put, List.setIfInBounds_toArray, List.set_cons_zero, List.set_cons_succ]
      refine wpAnyH_take (i := 34) (v := ?_) (by simp only [List.getElem?_toArray, List.getElem?_cons_succ, List.getElem?_cons_zero]; rfl) (by kernel_rfl) (by kernel_rfl) (by kernel_rfl) (fun _ _ _ h => h) (Or.inl ⟨by rfl, ?_⟩) (by assumption) ?_
      rotate_left
      · intro w hSw
        try dsimp only at hSw
        go_simp
        try with_reducible rfl
      try simp only [Act.put, List.setIfInBounds_toArray, List.set_cons_zero, List.set_cons_succ]
      refine wpAnyH_done (by kernel_rfl) ?_ _
      refine NoPanic.normal ?_
      go_wp2_with fail
      go_ret
      exact ⟨rfl, K21.out.bel⟩
end Go.Proofs.Ytpjfgkjhhmfhkaa
