/- LogPlays returns true and makes new memory alone. Condition: errors.errorType holds what its text lays; each step's bytes are bytes, within what a slice may take up. -/
import Derived.Test.YtageblggakfbdaaGreatDoorLogPi
import Derived.Test.YtageblggakfbdaaGreatDoorLogH
import Derived.Test.YtageblggakfbdaaGreatDoorGenFew2
namespace Go.Proofs.YtageblggakfbdaaGreatDoor
open Go.RowKit
open Go.Maps

theorem open_zero (rm : Int) : openS (St.new rm) [102] 0 = (0, St.new rm, []) := by
  have h : (St.new rm).rd [102] = [] := rfl
  unfold openS
  rw [if_neg (by decide), h, if_neg (by decide), if_neg (by decide), if_neg (by decide)]
  rfl
theorem Pq.first {w W W' : World} {B d l B' r lb : Nat} {S A' : Nat → Prop} {s : St} {R Q : List Rc} (c : CL w W B d l S s [102] R) (hr : ∀ k, S k → k ≠ r) (hg : w.heap.size ≤ r) (h1 : RLS W' B' r lb A' s [102] Q) (h2 : Only (fun k => k = r) W W') (h3 : ∀ k, A' k → False ∨ W.heap.size ≤ k) (h4 : W.heap.size ≤ lb) : Pq w W' B d l B' r lb S A' s s R Q := by
  refine ⟨⟨c.dl.kept h2 hr, c.bel.trans (h2.below c.bel.size (fun k hk => hk ▸ hg)), c.ge⟩, h1, fun k hk => ⟨fun e => ?_, hr k hk, fun e => ?_⟩, hg, Nat.le_trans c.bel.size h4⟩
  · rcases h3 k e with e | e
    · exact e
    · have := c.dl.lt k hk; omega
  · have := c.dl.lt k hk; omega
theorem rlen_rls (w : World) (B r l : Nat) (A : Nat → Prop) (s : St) (nm : Key) (R : List Rc) (h : RLS w B r l A s nm R) : Calls Tryz.prog 32 #[.pointer (some ⟨l, 0, none⟩)] w fun e w' => e = .returned (.int .i64 (ends R)) ∧ w = w' := by
  obtain ⟨_, vl, E, hl, rfl⟩ := h
  exact rlen_to w B r l A nm vl E hl
theorem nhand (w : World) (k : Int) (hg : Glob w) : Calls Tryz.prog 24 #[enoOf k] w fun e w' => e = .returned (.int .i64 k) ∧ Below w.heap.size w w' := khand_any w k hg
theorem ohand (w : World) (B : Nat) (c : Int) (v : Value) (h : OpErr w B c v) (hc : c ≠ 0) (hg : Glob w) : Calls Tryz.prog 24 #[v] w fun e w' => e = .returned (.int .i64 c) ∧ Below w.heap.size w w' := by
  rcases h with rfl | ⟨g, rfl, _, h⟩
  · have := khand_any w c hg
    unfold errOf at this
    rw [if_neg hc] at this
    exact this
  · exact khand_step w c g slog h hg
theorem OpErr.form {w : World} {B : Nat} {c : Int} {v : Value} (h : OpErr w B c v) : ∃ t x, v = .iface t x := by
  rcases h with h | ⟨g, h, _⟩
  · exact ⟨_, _, h⟩
  · exact ⟨_, _, h⟩
theorem OpErr.only {w w' : World} {B : Nat} {c : Int} {v : Value} {T : Nat → Prop} (h : OpErr w B c v) (ho : Only T w w') (hT : ∀ k, T k → k < B) : OpErr w' B c v := by
  rcases h with h | ⟨g, h, hB, hg⟩
  · exact .inl h
  · exact .inr ⟨g, h, hB, by rw [ho.block _ ((Array.getElem?_eq_some_iff.1 hg).1) (fun e => by have := hT _ e; omega)]; exact hg⟩
set_option maxRecDepth 20000 in
set_option maxHeartbeats 8000000 in
theorem logPlays_walk (w : World) (hg : Glob w) (room : Int) (p0 : Option Addr) (c0 : Nat) (E : List Sg) (hE : SgSeen w p0 E) (hEb : ∀ (j : Nat) (x : Sg), E[j]? = some x → Okb x.b ∧ x.b.length ≤ 140737488351232) :
    Calls Tryz.prog 4 #[.int .i64 room, .slice p0 E.length c0] w fun e w' => e = .returned (.bool true) ∧ Below w.heap.size w w' := by
  have HG := Lib.hid hg
  have HE := Lib.hid hE
  have HEB := Lib.hid hEb
  obtain ⟨n, hn⟩ : ∃ n, n = E.length := ⟨_, rfl⟩
  rw [← hn]
  have HN := Lib.hid hn
  clear hg hE hEb hn
  go_enter Tryz.func4, Tryz.ntmps4
  go_wp2_with fail
  refine (pick_any w room 400 (by decide) (by decide)).mono ?_
  rintro e w' ⟨rfl, rfl⟩
  obtain ⟨rm, hrm⟩ : ∃ z : Int, z = 100 + room % 400 := ⟨_, rfl⟩
  have hrw : IntKind.i64.wrap (100 + room % 400) = rm := by rw [hrm]; exact IntWalk.i64_in _ (by omega)
  have hrw' : 100 + room % 400 = rm := hrm.symm
  clear hrm
  go_wp2_with fail
  refine (new_to w rm).mono ?_
  rintro e w1 ⟨d, S1, rfl, d1, b1, g1⟩
  have C1 : Hid (Cl w w1 w.heap.size d S1 (St.new rm)) := Lib.hid ⟨d1, b1, g1⟩
  clear d1 b1 g1 hrw hrw'
  go_wp2_with fail
  refine (known7_to w1).mono ?_
  rintro e w2 ⟨rfl, b2⟩
  have C2 := Lib.hid (C1.out.kb b2)
  clear b2 C1
  go_wp2_with fail
  refine (rnew_to w2 rm).mono ?_
  rintro e w3 ⟨r, rfl, r3, b3, g3⟩
  have C3 := Lib.hid (C2.out.kb b3)
  have R3 := Lib.hid r3
  have N3 : Hid (∀ k, S1 k → k ≠ r) := Lib.hid (fun k hk e => by have := C2.out.ds.lt k hk; omega)
  have G3 : Hid (w.heap.size ≤ r) := Lib.hid (Nat.le_trans C2.out.bel.size g3)
  have HO := Lib.hid (open_zero rm)
  obtain ⟨B', hB'⟩ : ∃ B', B' = w2.heap.size := ⟨_, rfl⟩
  rw [← hB'] at R3
  clear r3 b3 g3 C2 hB'
  go_wp2_with fail
  refine (open_ok w3 _ d S1 (St.new rm) [102] 0 C3.out.ds (Nat.zero_le _) (by show (-1 : Int) < _; decide) (by decide) Okb.nil (by rw [HO.out])).mono ?_
  rintro e w4 ⟨l, S4, rfl, h4, o4, s4⟩
  rw [HO.out] at h4
  have C4 : Hid (CL w w4 w.heap.size d l S4 (St.new rm) [102] []) := Lib.hid (C3.out.opened h4 o4 s4)
  have R4 := Lib.hid (R3.out.kept o4 (fun e => N3.out r e rfl) (fun _ h _ => h))
  have N4 : Hid (∀ k, S4 k → k ≠ r) := Lib.hid (fun k hk e => (s4 k hk).elim (fun e2 => N3.out k e2 e) (fun e2 => by have := R3.out.lts.2.1; omega))
  have GD : Hid (Good (St.new rm)) := Lib.hid C3.out.ds.good
  clear h4 o4 s4 C3 R3 N3
  go_wp2_with fail
  refine (ropen_to w4 B' r _ (St.new rm) [102] 0 R4.out GD.out (Nat.zero_le _) (by show (-1 : Int) < _; decide) (by decide) Okb.nil).mono ?_
  intro e w5 hp
  unfold ROpen at hp
  rw [HO.out, if_pos rfl] at hp
  obtain ⟨lb, A5, rfl, h5, o5, a5, l5⟩ := hp
  have P5 : Hid (Pq w w5 w.heap.size d l B' r lb S4 A5 (St.new rm) (St.new rm) [] []) := Lib.hid (Pq.first C4.out N4.out G3.out h5 o5 a5 l5)
  have I5 : Hid (Iv 0 (St.new rm) []) := Lib.hid (Iv.new rm)
  clear h5 o5 a5 l5 C4 R4 N4 G3 GD HO
  go_wp2_with fail
  go_loopw [7, 9, 11] (fun a b i wr => ∃ (k : Nat) (S A : Nat → Prop) (l lb : Nat) (s : St) (R : List Rc), k ≤ n ∧ k ≤ 40 ∧ a = .pointer (some ⟨l, 0, none⟩) ∧ b = .pointer (some ⟨lb, 0, none⟩) ∧ i = .int .i64 k ∧ Hid (Pq w wr w.heap.size d l B' r lb S A s s R R) ∧ Hid (Iv k s R)) (fun _ _ i _ => 40 - (intOf i).toNat)
  case atStart => exact ⟨0, S4, A5, l, lb, _, _, Nat.zero_le _, Nat.zero_le _, rfl, rfl, rfl, P5, I5⟩
  case round =>
    clear P5 I5
    obtain ⟨k, S, A, l, lb, s, R, hkn, hk40, rfl, rfl, rfl, HP, HI⟩ := hrel
    by_cases hlt : k < n
    case neg =>
      go_wp2_with fail
      go_ret
      exact ⟨rfl, HP.out.cl.bel⟩
    by_cases hlt4 : k < 40
    case neg =>
      have hlt4' : ¬ (k : Int) < 40 := by omega
      go_wp2_with fail
      go_ret
      exact ⟨rfl, HP.out.cl.bel⟩
    case pos =>
    have hkE : k < E.length := by rw [← HN.out]; exact hlt
    obtain ⟨g, o, rfl, hce, hse⟩ := sg_at HE.out hkE
    have hxb := HEB.out k _ (List.getElem?_eq_getElem hkE)
    generalize E[k] = x at *
    have HSE := Lib.hid hse
    have HXB := Lib.hid hxb
    have e0 : wr.cell? ⟨g, o + k * 4, none⟩ = some (.int .i64 x.what) := cell_kb (hce 0 _ rfl) HP.out.cl.bel
    have e1 : wr.cell? ⟨g, o + k * 4 + 1, none⟩ = some (.int .i64 x.n) := cell_kb (hce 1 _ rfl) HP.out.cl.bel
    have e2 : wr.cell? ⟨g, o + k * 4 + 2, none⟩ = some (.int .i64 x.cut) := cell_kb (hce 2 _ rfl) HP.out.cl.bel
    have e3 : wr.cell? ⟨g, o + k * 4 + 3, none⟩ = some (.slice x.q x.b.length x.c) := cell_kb (hce 3 _ rfl) HP.out.cl.bel
    clear hce hse hxb
    have hk4' : (k : Int) < 40 := by omega
    go_wp2_with fail
    have b4 : Below wr.heap.size wr (wr.alloc (.cells #[.int .i64 x.what, .int .i64 x.n, .int .i64 x.cut, .slice x.q x.b.length x.c] 59)) := (Below.refl _ wr).alloc (Nat.le_refl _) _
    have X4 : Hid (Px7 (wr.alloc (.cells #[.int .i64 x.what, .int .i64 x.n, .int .i64 x.cut, .slice x.q x.b.length x.c] 59)) S wr.heap.size x) := Lib.hid ⟨heap_alloc_last wr _, fun e => by have := HP.out.cl.dl.lt _ e; omega⟩
    have P4 := Lib.hid (HP.out.kb b4)
    clear b4 e0 e1 e2 e3
    generalize wr.alloc (.cells #[.int .i64 x.what, .int .i64 x.n, .int .i64 x.cut, .slice x.q x.b.length x.c] 59) = W4 at X4 P4 ⊢
    have NXB : Hid (wr.heap.size ≠ r ∧ wr.heap.size ≠ lb) := Lib.hid ⟨fun e => by have := HP.out.rl.lts.2.1; omega, fun e => by have := HP.out.rl.lts.2.2; omega⟩
    clear HP
    obtain ⟨xb, hxb⟩ : ∃ xb, xb = wr.heap.size := ⟨_, rfl⟩
    rw [← hxb] at X4 NXB ⊢
    clear hxb
    have h10 : x.what % 10 = 6 ∨ x.what % 10 = 9 ∨ (x.what % 10 = 7 ∨ x.what % 10 = 8) ∨ (¬ x.what % 10 = 6 ∧ ¬ x.what % 10 = 7 ∧ ¬ x.what % 10 = 8 ∧ ¬ x.what % 10 = 9) := by omega
    have GS := Lib.hid P4.out.good
    have HI1 := Lib.hid (show s.works ≤ 40 ∧ s.fuse < 100 ∧ ends R ≤ 900000000 from by have h1 := HI.out.works; have h2 := HI.out.fuse; have h3 := HI.out.ends; omega)
    rcases h10 with h10 | h10 | h10 | h10
    · as_aux_lemma =>
        have HPK := Lib.hid (pick_to W4 x.what 10 6 (by decide) (by decide) h10)
        have x0 := X4.out.c0
        go_wp2_with fail
        refine HPK.out.mono ?_
        rintro e w' ⟨rfl, rfl⟩
        clear HPK h10
        have BD : Hid (Below W4.heap.size W4 W4.drew) := Lib.hid (below_dn (m := 1) (Below.refl _ W4))
        have P4d := Lib.hid (P4.out.kb BD.out)
        have X4d := Lib.hid (X4.out.kb BD.out)
        have HEN : Hid (ends R ≤ 900000000) := Lib.hid HI1.out.2.2
        obtain ⟨el, hel⟩ : ∃ z : Nat, z = ends R := ⟨_, rfl⟩
        have hadd : IntKind.i64.wrap ((el : Int) + 1) = (el : Int) + 1 := IntWalk.i64_in _ (by have := HEN.out; omega)
        have helb : (0 : Int) < (el : Int) + 1 ∧ (el : Int) + 1 ≤ 4611686018427387904 := by have := HEN.out; omega
        have C1 := Lib.hid (len_dl W4.drew w.heap.size d l S s [102] R P4d.out.cl.dl)
        rw [← hel] at C1
        have HEL := Lib.hid helb
        clear hel helb x0
        go_wp2_with fail
        try simp only [List.append]
        refine wp_region_noPanic ?_
        refine wp_region_held_drew (S := (fun W => W.cell? ⟨xb, 1, none⟩ = some (.int .i64 x.n))) (by kernel_rfl) X4d.out.c1 (fun hHeld => ?_)
        refine wpAnyH_take (i := 0) (v := ?_) (by simp only [List.getElem?_toArray, List.getElem?_cons_zero]; rfl) (by kernel_rfl) (by kernel_rfl) (by kernel_rfl) (fun _ _ _ h => h) (Or.inl ⟨by rfl, ?_⟩) (by assumption) ?_
        rotate_left
        · intro w hSw
          try dsimp only at hSw
          go_simp
          try with_reducible rfl
        try simp only [Act.put, List.setIfInBounds_toArray, List.set_cons_zero, List.set_cons_succ]
        refine wpAnyH_take (i := 1) (v := ?_) (by simp only [List.getElem?_toArray, List.getElem?_cons_succ, List.getElem?_cons_zero]; rfl) (by kernel_rfl) (by kernel_rfl) (by kernel_rfl) (fun _ _ _ h => h) (Or.inl ⟨by rfl, ?_⟩) (by assumption) ?_
        rotate_left
        · intro w hSw
          try dsimp only at hSw
          go_simp
          try with_reducible rfl
        try simp only [Act.put, List.setIfInBounds_toArray, List.set_cons_zero, List.set_cons_succ]
        refine wpAnyH_take (i := 2) (v := ?_) (by simp only [List.getElem?_toArray, List.getElem?_cons_succ, List.getElem?_cons_zero]; rfl) (by kernel_rfl) (by kernel_rfl) (by kernel_rfl) (fun _ _ _ h => h) (Or.inl ⟨by rfl, ?_⟩) (by assumption) ?_
        rotate_left
        · intro w hSw
          try dsimp only at hSw
          go_simp
          try with_reducible rfl
        try simp only [Act.put, List.setIfInBounds_toArray, List.set_cons_zero, List.set_cons_succ]
        refine wpAnyH_ready (rs := [3]) (by kernel_rfl) (by simp) ?_
        refine AllReadyH.cons (by simp only [List.getElem?_toArray, List.getElem?_cons_succ, List.getElem?_cons_zero]; rfl) (fun K hK => ?_) AllReadyH.nil
        go_simp
        refine C1.out.mono ?_
        rintro e w' ⟨rfl, rfl⟩
        go_wp2_with fail
        refine hK.out _ _ X4d.out.c1 (fun hHeld => ?_)
        clear hK K
        try simp only [Act.put, List.setIfInBounds_toArray, List.set_cons_zero, List.set_cons_succ]
        refine wpAnyH_take (i := 4) (v := (.int .i64 ((el : Int) + 1))) (by simp only [List.getElem?_toArray, List.getElem?_cons_succ, List.getElem?_cons_zero]; rfl) (by kernel_rfl) (by kernel_rfl) (by kernel_rfl) (fun _ _ _ h => h) (Or.inl ⟨by rfl, ?_⟩) (by assumption) ?_
        · intro w hSw
          try dsimp only at hSw
          go_simp
        try simp only [Act.put, List.setIfInBounds_toArray, List.set_cons_zero, List.set_cons_succ]
        refine wpAnyH_ready (rs := [5]) (by kernel_rfl) (by simp) ?_
        refine AllReadyH.cons (by simp only [List.getElem?_toArray, List.getElem?_cons_succ, List.getElem?_cons_zero]; rfl) (fun K hK => ?_) AllReadyH.nil
        go_simp
        refine (pick_any _ x.n ((el : Int) + 1) HEL.out.1 HEL.out.2).mono ?_
        rintro e w' ⟨rfl, rfl⟩
        go_wp2_with fail
        refine hK.out _ _ X4d.out.c1 (fun hHeld => ?_)
        clear hK K
        try simp only [Act.put, List.setIfInBounds_toArray, List.set_cons_zero, List.set_cons_succ]
        refine wpAnyH_take (i := 6) (v := ?_) (by simp only [List.getElem?_toArray, List.getElem?_cons_succ, List.getElem?_cons_zero]; rfl) (by kernel_rfl) (by kernel_rfl) (by kernel_rfl) (fun _ _ _ h => h) (Or.inl ⟨by rfl, ?_⟩) (by assumption) ?_
        rotate_left
        · intro w hSw
          try dsimp only at hSw
          go_simp
          try with_reducible rfl
        try simp only [Act.put, List.setIfInBounds_toArray, List.set_cons_zero, List.set_cons_succ]
        refine wpAnyH_done (by kernel_rfl) ?_ _
        refine NoPanic.normal ?_
        clear C1 HEL
        obtain ⟨L, hL⟩ : ∃ z, z = x.n % ((el : Int) + 1) := ⟨_, rfl⟩
        rw [← hL]
        clear hL hadd
        have y2 := X4d.out.c2
        by_cases hrem : 0 < x.cut.tmod 3
        case pos =>
          have hL0 := HEN
          obtain ⟨hrs, vl, E2, hrl, hre⟩ := P4d.out.rl
          obtain ⟨p2, cap2, rfl, hp2⟩ := hrl.rows.slice
          obtain ⟨n2, hn2⟩ : ∃ z, z = E2.length := ⟨_, rfl⟩
          have hn26 : n2 ≤ 111111112 := by have h1 := ends_many (rcs E2); have h2 := hrl.small; rw [rcs_len] at h1; omega
          rw [← hn2] at hp2 hrl
          have HP2 := Lib.hid hp2
          have HRL2 := Lib.hid hrl
          have HN2 := Lib.hid hn2
          have hq0 : 0 ≤ x.n % ((n2 : Int) + 1) ∧ x.n % ((n2 : Int) + 1) < (n2 : Int) + 1 := ⟨Int.emod_nonneg _ (by omega), Int.emod_lt_of_pos _ (by omega)⟩
          obtain ⟨qn, hqn⟩ : ∃ q : Nat, x.n % ((n2 : Int) + 1) = q := ⟨(x.n % ((n2 : Int) + 1)).toNat, by omega⟩
          have hqn2 : qn ≤ n2 := by omega
          have HQN := Lib.hid hqn
          have hadd2 : IntKind.i64.wrap ((n2 : Int) + 1) = (n2 : Int) + 1 := IntWalk.i64_in _ (by omega)
          have hn2b : (0 : Int) < (n2 : Int) + 1 ∧ (n2 : Int) + 1 ≤ 4611686018427387904 := by omega
          have HNB := Lib.hid hn2b
          clear hrs hre hp2 hrl hn2 hq0 hqn hn2b
          go_wp2_with fail
          go_loopw [13, 14] (fun sm j wr => ∃ (i t : Nat), i ≤ qn ∧ sm = .int .i64 t ∧ j = .int .i64 i ∧ Hid (t = ends (rcs (E2.take i))) ∧ Hid (Below W4.drew.heap.size W4.drew wr)) (fun _ j _ => qn - (intOf j).toNat)
          case atStart => exact ⟨0, 0, Nat.zero_le _, rfl, rfl, Lib.hid (by simp [rcs, ends]), Lib.hid (Below.refl _ _)⟩
          case round =>
            obtain ⟨i, t, hiq, rfl, rfl, HT, HB⟩ := hrel
            have HBd : Hid (Below W4.drew.heap.size W4.drew wr.drew) := Lib.hid (below_dn (m := 1) HB.out)
            have hS : Hid (wr.drew.cell? ⟨xb, 1, none⟩ = some (.int .i64 x.n) ∧ wr.drew.cell? ⟨lb, 2, none⟩ = some (.slice p2 n2 cap2)) := Lib.hid ⟨cell_kb X4d.out.c1 HBd.out, cell_kb HRL2.out.c2 HBd.out⟩
            by_cases hiq2 : i < qn
            · have hik : (i : Int) < (qn : Int) := by omega
              go_wp2_with fail
              try simp only [List.append]
              refine wp_region_noPanic ?_
              refine wp_region_held_drew (S := (fun W => W.cell? ⟨xb, 1, none⟩ = some (.int .i64 x.n) ∧ W.cell? ⟨lb, 2, none⟩ = some (.slice p2 n2 cap2))) (by kernel_rfl) hS.out (fun hHeld => ?_)
              refine wpAnyH_take (i := 0) (v := ?_) (by simp only [List.getElem?_toArray, List.getElem?_cons_zero]; rfl) (by kernel_rfl) (by kernel_rfl) (by kernel_rfl) (fun _ _ _ h => h) (Or.inl ⟨by rfl, ?_⟩) (by assumption) ?_
              rotate_left
              · intro w hSw
                try dsimp only at hSw
                go_simp
                try with_reducible rfl
              try simp only [Act.put, List.setIfInBounds_toArray, List.set_cons_zero, List.set_cons_succ]
              refine wpAnyH_take (i := 1) (v := ?_) (by simp only [List.getElem?_toArray, List.getElem?_cons_succ, List.getElem?_cons_zero]; rfl) (by kernel_rfl) (by kernel_rfl) (by kernel_rfl) (fun _ _ _ h => h) (Or.inl ⟨by rfl, ?_⟩) (by assumption) ?_
              rotate_left
              · intro w hSw
                try dsimp only at hSw
                go_simp
                try with_reducible rfl
              try simp only [Act.put, List.setIfInBounds_toArray, List.set_cons_zero, List.set_cons_succ]
              refine wpAnyH_take (i := 2) (v := ?_) (by simp only [List.getElem?_toArray, List.getElem?_cons_succ, List.getElem?_cons_zero]; rfl) (by kernel_rfl) (by kernel_rfl) (by kernel_rfl) (fun _ _ _ h => h) (Or.inl ⟨by rfl, ?_⟩) (by assumption) ?_
              rotate_left
              · intro w hSw
                try dsimp only at hSw
                go_simp
                try with_reducible rfl
              try simp only [Act.put, List.setIfInBounds_toArray, List.set_cons_zero, List.set_cons_succ]
              refine wpAnyH_take (i := 3) (v := ?_) (by simp only [List.getElem?_toArray, List.getElem?_cons_succ, List.getElem?_cons_zero]; rfl) (by kernel_rfl) (by kernel_rfl) (by kernel_rfl) (fun _ _ _ h => h) (Or.inl ⟨by rfl, ?_⟩) (by assumption) ?_
              rotate_left
              · intro w hSw
                try dsimp only at hSw
                go_simp
                try with_reducible rfl
              try simp only [Act.put, List.setIfInBounds_toArray, List.set_cons_zero, List.set_cons_succ]
              refine wpAnyH_take (i := 4) (v := ?_) (by simp only [List.getElem?_toArray, List.getElem?_cons_succ, List.getElem?_cons_zero]; rfl) (by kernel_rfl) (by kernel_rfl) (by kernel_rfl) (fun _ _ _ h => h) (Or.inl ⟨by rfl, ?_⟩) (by assumption) ?_
              rotate_left
              · intro w hSw
                try dsimp only at hSw
                go_simp
                try with_reducible rfl
              try simp only [Act.put, List.setIfInBounds_toArray, List.set_cons_zero, List.set_cons_succ]
              refine wpAnyH_take (i := 5) (v := ?_) (by simp only [List.getElem?_toArray, List.getElem?_cons_succ, List.getElem?_cons_zero]; rfl) (by kernel_rfl) (by kernel_rfl) (by kernel_rfl) (fun _ _ _ h => h) (Or.inl ⟨by rfl, ?_⟩) (by assumption) ?_
              rotate_left
              · intro w hSw
                try dsimp only at hSw
                go_simp
                try with_reducible rfl
              try simp only [Act.put, List.setIfInBounds_toArray, List.set_cons_zero, List.set_cons_succ]
              refine wpAnyH_take (i := 6) (v := ?_) (by simp only [List.getElem?_toArray, List.getElem?_cons_succ, List.getElem?_cons_zero]; rfl) (by kernel_rfl) (by kernel_rfl) (by kernel_rfl) (fun _ _ _ h => h) (Or.inl ⟨by rfl, ?_⟩) (by assumption) ?_
              rotate_left
              · intro w hSw
                try dsimp only at hSw
                go_simp
                try with_reducible rfl
              try simp only [Act.put, List.setIfInBounds_toArray, List.set_cons_zero, List.set_cons_succ]
              refine wpAnyH_take (i := 7) (v := ?_) (by simp only [List.getElem?_toArray, List.getElem?_cons_succ, List.getElem?_cons_zero]; rfl) (by kernel_rfl) (by kernel_rfl) (by kernel_rfl) (fun _ _ _ h => h) (Or.inl ⟨by rfl, ?_⟩) (by assumption) ?_
              rotate_left
              · intro w hSw
                try dsimp only at hSw
                go_simp
                try with_reducible rfl
              try simp only [Act.put, List.setIfInBounds_toArray, List.set_cons_zero, List.set_cons_succ]
              refine wpAnyH_take (i := 8) (v := (.int .i64 ((n2 : Int) + 1))) (by simp only [List.getElem?_toArray, List.getElem?_cons_succ, List.getElem?_cons_zero]; rfl) (by kernel_rfl) (by kernel_rfl) (by kernel_rfl) (fun _ _ _ h => h) (Or.inl ⟨by rfl, ?_⟩) (by assumption) ?_
              · intro w hSw
                try dsimp only at hSw
                go_simp
              try simp only [Act.put, List.setIfInBounds_toArray, List.set_cons_zero, List.set_cons_succ]
              refine wpAnyH_ready (rs := [9]) (by kernel_rfl) (by simp) ?_
              refine AllReadyH.cons (by simp only [List.getElem?_toArray, List.getElem?_cons_succ, List.getElem?_cons_zero]; rfl) (fun K hK => ?_) AllReadyH.nil
              go_simp
              refine (pick_to _ x.n ((n2 : Int) + 1) qn HNB.out.1 HNB.out.2 HQN.out).mono ?_
              rintro e w' ⟨rfl, rfl⟩
              go_wp2_with fail
              refine hK.out _ _ hS.out (fun hHeld => ?_)
              clear hK K
              try simp only [Act.put, List.setIfInBounds_toArray, List.set_cons_zero, List.set_cons_succ]
              refine wpAnyH_take (i := 10) (v := (.bool true)) (by simp only [List.getElem?_toArray, List.getElem?_cons_succ, List.getElem?_cons_zero]; rfl) (by kernel_rfl) (by kernel_rfl) (by kernel_rfl) (fun _ _ _ h => h) (Or.inl ⟨by rfl, ?_⟩) (by assumption) ?_
              · intro w hSw
                try dsimp only at hSw
                go_simp
              try simp only [Act.put, List.setIfInBounds_toArray, List.set_cons_zero, List.set_cons_succ]
              refine wpAnyH_done (by kernel_rfl) ?_ _
              refine NoPanic.normal ?_
              have hkE2 : i < E2.length := by rw [← HN2.out]; omega
              obtain ⟨g2, o2, rfl⟩ := HP2.out (by omega)
              have e1 := cell_kb (XAt.at HRL2.out.rows hkE2 (c := 1) (by omega) rfl) HBd.out
              obtain ⟨pb, cb, hb⟩ := len_val (HRL2.out.rows.bod E2[i] (List.getElem_mem hkE2)).seen
              rw [hb] at e1
              have hts := ends_step hkE2
              have htl := ends_takes E2 (i + 1)
              rw [hts, ← HT.out] at htl
              rw [← HT.out] at hts
              have HTS := Lib.hid hts
              have h63 := HRL2.out.small
              clear hb
              generalize E2[i].2.2.length = q2 at *
              have hq3 : t + q2 ≤ 1000000000 := by omega
              obtain ⟨z, hz⟩ : ∃ z : Nat, z = t + (9 + q2) := ⟨_, rfl⟩
              have ha63 : IntKind.i64.wrap ((t : Int) + 9) = (t : Int) + 9 := IntWalk.i64_in _ (by omega)
              have hz63 : IntKind.i64.wrap ((t : Int) + 9 + q2) = z := by rw [hz]; rw [show (t : Int) + 9 + q2 = ((t + (9 + q2) : Nat) : Int) from by omega]; exact IntWalk.i64_in _ (by omega)
              have hz64 : (t : Int) + 9 + q2 = (z : Int) := by omega
              have HZ := Lib.hid hz
              have hzb : z ≤ 1000000000 := by omega
              have c22 := hS.out.2
              clear hts htl h63 hz hq3
              go_wp2_with fail
              exact ⟨⟨i + 1, z, by omega, rfl, by simp, Lib.hid (by rw [HTS.out, HZ.out]), HBd⟩, by simp [intOf]; omega⟩
            · have hik : ¬ (i : Int) < (qn : Int) := by omega
              go_wp2_with fail
              try simp only [List.append]
              refine wp_region_noPanic ?_
              refine wp_region_held_drew (S := (fun W => W.cell? ⟨xb, 1, none⟩ = some (.int .i64 x.n) ∧ W.cell? ⟨lb, 2, none⟩ = some (.slice p2 n2 cap2))) (by kernel_rfl) hS.out (fun hHeld => ?_)
              refine wpAnyH_take (i := 0) (v := ?_) (by simp only [List.getElem?_toArray, List.getElem?_cons_zero]; rfl) (by kernel_rfl) (by kernel_rfl) (by kernel_rfl) (fun _ _ _ h => h) (Or.inl ⟨by rfl, ?_⟩) (by assumption) ?_
              rotate_left
              · intro w hSw
                try dsimp only at hSw
                go_simp
                try with_reducible rfl
              try simp only [Act.put, List.setIfInBounds_toArray, List.set_cons_zero, List.set_cons_succ]
              refine wpAnyH_take (i := 1) (v := ?_) (by simp only [List.getElem?_toArray, List.getElem?_cons_succ, List.getElem?_cons_zero]; rfl) (by kernel_rfl) (by kernel_rfl) (by kernel_rfl) (fun _ _ _ h => h) (Or.inl ⟨by rfl, ?_⟩) (by assumption) ?_
              rotate_left
              · intro w hSw
                try dsimp only at hSw
                go_simp
                try with_reducible rfl
              try simp only [Act.put, List.setIfInBounds_toArray, List.set_cons_zero, List.set_cons_succ]
              refine wpAnyH_take (i := 2) (v := ?_) (by simp only [List.getElem?_toArray, List.getElem?_cons_succ, List.getElem?_cons_zero]; rfl) (by kernel_rfl) (by kernel_rfl) (by kernel_rfl) (fun _ _ _ h => h) (Or.inl ⟨by rfl, ?_⟩) (by assumption) ?_
              rotate_left
              · intro w hSw
                try dsimp only at hSw
                go_simp
                try with_reducible rfl
              try simp only [Act.put, List.setIfInBounds_toArray, List.set_cons_zero, List.set_cons_succ]
              refine wpAnyH_take (i := 3) (v := ?_) (by simp only [List.getElem?_toArray, List.getElem?_cons_succ, List.getElem?_cons_zero]; rfl) (by kernel_rfl) (by kernel_rfl) (by kernel_rfl) (fun _ _ _ h => h) (Or.inl ⟨by rfl, ?_⟩) (by assumption) ?_
              rotate_left
              · intro w hSw
                try dsimp only at hSw
                go_simp
                try with_reducible rfl
              try simp only [Act.put, List.setIfInBounds_toArray, List.set_cons_zero, List.set_cons_succ]
              refine wpAnyH_take (i := 4) (v := ?_) (by simp only [List.getElem?_toArray, List.getElem?_cons_succ, List.getElem?_cons_zero]; rfl) (by kernel_rfl) (by kernel_rfl) (by kernel_rfl) (fun _ _ _ h => h) (Or.inl ⟨by rfl, ?_⟩) (by assumption) ?_
              rotate_left
              · intro w hSw
                try dsimp only at hSw
                go_simp
                try with_reducible rfl
              try simp only [Act.put, List.setIfInBounds_toArray, List.set_cons_zero, List.set_cons_succ]
              refine wpAnyH_take (i := 5) (v := ?_) (by simp only [List.getElem?_toArray, List.getElem?_cons_succ, List.getElem?_cons_zero]; rfl) (by kernel_rfl) (by kernel_rfl) (by kernel_rfl) (fun _ _ _ h => h) (Or.inl ⟨by rfl, ?_⟩) (by assumption) ?_
              rotate_left
              · intro w hSw
                try dsimp only at hSw
                go_simp
                try with_reducible rfl
              try simp only [Act.put, List.setIfInBounds_toArray, List.set_cons_zero, List.set_cons_succ]
              refine wpAnyH_take (i := 6) (v := ?_) (by simp only [List.getElem?_toArray, List.getElem?_cons_succ, List.getElem?_cons_zero]; rfl) (by kernel_rfl) (by kernel_rfl) (by kernel_rfl) (fun _ _ _ h => h) (Or.inl ⟨by rfl, ?_⟩) (by assumption) ?_
              rotate_left
              · intro w hSw
                try dsimp only at hSw
                go_simp
                try with_reducible rfl
              try simp only [Act.put, List.setIfInBounds_toArray, List.set_cons_zero, List.set_cons_succ]
              refine wpAnyH_take (i := 7) (v := ?_) (by simp only [List.getElem?_toArray, List.getElem?_cons_succ, List.getElem?_cons_zero]; rfl) (by kernel_rfl) (by kernel_rfl) (by kernel_rfl) (fun _ _ _ h => h) (Or.inl ⟨by rfl, ?_⟩) (by assumption) ?_
              rotate_left
              · intro w hSw
                try dsimp only at hSw
                go_simp
                try with_reducible rfl
              try simp only [Act.put, List.setIfInBounds_toArray, List.set_cons_zero, List.set_cons_succ]
              refine wpAnyH_take (i := 8) (v := (.int .i64 ((n2 : Int) + 1))) (by simp only [List.getElem?_toArray, List.getElem?_cons_succ, List.getElem?_cons_zero]; rfl) (by kernel_rfl) (by kernel_rfl) (by kernel_rfl) (fun _ _ _ h => h) (Or.inl ⟨by rfl, ?_⟩) (by assumption) ?_
              · intro w hSw
                try dsimp only at hSw
                go_simp
              try simp only [Act.put, List.setIfInBounds_toArray, List.set_cons_zero, List.set_cons_succ]
              refine wpAnyH_ready (rs := [9]) (by kernel_rfl) (by simp) ?_
              refine AllReadyH.cons (by simp only [List.getElem?_toArray, List.getElem?_cons_succ, List.getElem?_cons_zero]; rfl) (fun K hK => ?_) AllReadyH.nil
              go_simp
              refine (pick_to _ x.n ((n2 : Int) + 1) qn HNB.out.1 HNB.out.2 HQN.out).mono ?_
              rintro e w' ⟨rfl, rfl⟩
              go_wp2_with fail
              refine hK.out _ _ hS.out (fun hHeld => ?_)
              clear hK K
              try simp only [Act.put, List.setIfInBounds_toArray, List.set_cons_zero, List.set_cons_succ]
              refine wpAnyH_take (i := 10) (v := (.bool false)) (by simp only [List.getElem?_toArray, List.getElem?_cons_succ, List.getElem?_cons_zero]; rfl) (by kernel_rfl) (by kernel_rfl) (by kernel_rfl) (fun _ _ _ h => h) (Or.inl ⟨by rfl, ?_⟩) (by assumption) ?_
              · intro w hSw
                try dsimp only at hSw
                go_simp
              try simp only [Act.put, List.setIfInBounds_toArray, List.set_cons_zero, List.set_cons_succ]
              refine wpAnyH_done (by kernel_rfl) ?_ _
              refine NoPanic.normal ?_
              have PJ := Lib.hid (P4d.out.kb HBd.out)
              clear hS HBd HB HT hik hiq2 hiq y2 BD P4 X4 P4d X4d HRL2 HP2 HN2 HNB HQN
              obtain ⟨L2, hL⟩ : ∃ L : Int, L = (t : Int) := ⟨_, rfl⟩
              rw [← hL]
              clear hL
              generalize wr.drew = W5 at *
              go_wp2_with fail
              refine (cut_to W5 w.heap.size d l S s [102] R L2 PJ.out.cl.dl (by have := HI1.out; omega) (by have := HI1.out; omega) (by decide)).mono ?_
              rintro e w5 ⟨rfl, hp5⟩
              obtain ⟨S5, p5, _, _⟩ := PJ.out.stepD hp5
              have P5 := Lib.hid p5
              clear hp5 p5 PJ
              have HIZ := Lib.hid (HI.out.cut [102] L2)
              have HRC := Lib.hid (fun W A' (h : RLS W B' r lb A' s [102] R) => rcut_to W B' r lb A' s [102] R L2 h GS.out (by have := HI1.out; omega) (by have := HI1.out; omega) (by decide))
              obtain ⟨cz, hcz⟩ : ∃ z, z = cutS s [102] R L2 := ⟨_, rfl⟩
              rw [← hcz] at P5 HIZ ⊢
              rw [← hcz] at HRC
              clear hcz
              obtain ⟨cd, z, Q⟩ := cz
              go_wp2_with fail
              refine (nhand w5 cd (HG.out.kb P5.out.cl.bel)).mono ?_
              rintro e w6 ⟨rfl, b6⟩
              have P6 := Lib.hid (P5.out.kb b6)
              clear b6 P5
              go_wp2_with fail
              refine (HRC.out w6 _ P6.out.rl).mono ?_
              intro e w7 hp7
              unfold RAdd at hp7
              obtain ⟨rfl, hp7⟩ := hp7
              obtain ⟨A7, p7⟩ := P6.out.stepR hp7
              have P7 := Lib.hid p7
              have HI7 : Hid (Iv (k + 1) z Q) := Lib.hid HIZ.out
              clear hp7 p7 P6 HRC HIZ
              go_wp2_with fail
              refine (lsame7_to w7 _ d l B' r lb _ _ z Q P7.out.cl.dl P7.out.rl (by have := HI7.out.works; omega)).mono ?_
              rintro e w8 ⟨rfl, b8⟩
              have P8 := Lib.hid (P7.out.kb b8)
              clear b8 P7
              go_wp2_with fail
              exact ⟨⟨k + 1, _, _, _, _, z, Q, by omega, by omega, rfl, rfl, by simp, P8, HI7⟩, by simp [intOf]; omega⟩
        case neg =>
          clear BD P4 X4 X4d
          generalize W4.drew = W5 at *
          go_wp2_with fail
          refine (cut_to W5 w.heap.size d l S s [102] R L P4d.out.cl.dl (by have := HI1.out; omega) (by have := HI1.out; omega) (by decide)).mono ?_
          rintro e w5 ⟨rfl, hp5⟩
          obtain ⟨S5, p5, _, _⟩ := P4d.out.stepD hp5
          have P5 := Lib.hid p5
          clear hp5 p5 P4d y2
          have HIZ := Lib.hid (HI.out.cut [102] L)
          have HRC := Lib.hid (fun W A' (h : RLS W B' r lb A' s [102] R) => rcut_to W B' r lb A' s [102] R L h GS.out (by have := HI1.out; omega) (by have := HI1.out; omega) (by decide))
          obtain ⟨cz, hcz⟩ : ∃ z, z = cutS s [102] R L := ⟨_, rfl⟩
          rw [← hcz] at P5 HIZ ⊢
          rw [← hcz] at HRC
          clear hcz
          obtain ⟨cd, z, Q⟩ := cz
          go_wp2_with fail
          refine (nhand w5 cd (HG.out.kb P5.out.cl.bel)).mono ?_
          rintro e w6 ⟨rfl, b6⟩
          have P6 := Lib.hid (P5.out.kb b6)
          clear b6 P5
          go_wp2_with fail
          refine (HRC.out w6 _ P6.out.rl).mono ?_
          intro e w7 hp7
          unfold RAdd at hp7
          obtain ⟨rfl, hp7⟩ := hp7
          obtain ⟨A7, p7⟩ := P6.out.stepR hp7
          have P7 := Lib.hid p7
          have HI7 : Hid (Iv (k + 1) z Q) := Lib.hid HIZ.out
          clear hp7 p7 P6 HRC HIZ
          go_wp2_with fail
          refine (lsame7_to w7 _ d l B' r lb _ _ z Q P7.out.cl.dl P7.out.rl (by have := HI7.out.works; omega)).mono ?_
          rintro e w8 ⟨rfl, b8⟩
          have P8 := Lib.hid (P7.out.kb b8)
          clear b8 P7
          go_wp2_with fail
          exact ⟨⟨k + 1, _, _, _, _, z, Q, by omega, by omega, rfl, rfl, by simp, P8, HI7⟩, by simp [intOf]; omega⟩
    · as_aux_lemma =>
        have HPK := Lib.hid (pick_to W4 x.what 10 9 (by decide) (by decide) h10)
        have x0 := X4.out.c0
        go_wp2_with fail
        refine HPK.out.mono ?_
        rintro e w' ⟨rfl, rfl⟩
        clear HPK h10 x0
        have x1 := X4.out.c1
        go_wp2_with fail
        refine (pick_any W4 x.n 9 (by decide) (by decide)).mono ?_
        rintro e w' ⟨rfl, rfl⟩
        obtain ⟨q, hq⟩ : ∃ q : Int, q = x.n % 9 - 1 := ⟨_, rfl⟩
        have hqw : IntKind.i64.wrap (x.n % 9 - 1) = q := by rw [hq]; exact IntWalk.i64_in _ (by omega)
        have hqw' : x.n % 9 - 1 = q := hq.symm
        have HQ : Hid (q < 100) := Lib.hid (by omega)
        clear hq x1
        obtain ⟨S0, hds, hs0, hcn⟩ := P4.out.cl.dl.disk
        have HDS := Lib.hid hds
        have HCN := Lib.hid hcn
        clear hds hcn hs0
        go_wp2_with fail
        refine (fuse_ds W4 w.heap.size d S0 s q HDS.out).mono ?_
        rintro e w5 ⟨rfl, hp5⟩
        obtain ⟨S5, p5, _, _⟩ := P4.out.stepD (HCN.out _ _ hp5)
        have P5 := Lib.hid p5
        clear hp5 p5 P4 X4 HCN HDS
        go_wp2_with fail
        refine (rfuse_to w5 B' r A s q P5.out.rl.1 (by have := HQ.out; omega)).mono ?_
        rintro e w7 ⟨rfl, hp6⟩
        obtain ⟨A6, p6⟩ := P5.out.stepR (P5.out.rl.disk' hp6)
        have P7 := Lib.hid p6
        have HI7 := Lib.hid (HI.out.setFuse HQ.out)
        clear hp6 p6 P5 hqw hqw'
        obtain ⟨z, hz⟩ : ∃ z : St, z = ({ s with fuse := q }) := ⟨_, rfl⟩
        obtain ⟨Q, hQ⟩ : ∃ z, z = R := ⟨_, rfl⟩
        rw [← hz, ← hQ] at P7 HI7
        clear hz hQ
        go_wp2_with fail
        refine (lsame7_to w7 _ d l B' r lb _ _ z Q P7.out.cl.dl P7.out.rl (by have := HI7.out.works; omega)).mono ?_
        rintro e w8 ⟨rfl, b8⟩
        have P8 := Lib.hid (P7.out.kb b8)
        clear b8 P7
        go_wp2_with fail
        exact ⟨⟨k + 1, _, _, _, _, z, Q, by omega, by omega, rfl, rfl, by simp, P8, HI7⟩, by simp [intOf]; omega⟩
    · as_aux_lemma =>
        rcases h10 with h10 | h10
        · have HPK := Lib.hid (pick_to W4 x.what 10 7 (by decide) (by decide) h10)
          have x0 := X4.out.c0
          go_wp2_with fail
          refine HPK.out.mono ?_
          rintro e w' ⟨rfl, rfl⟩
          clear HPK h10
          have HEN : Hid (ends R ≤ 900000000) := Lib.hid HI1.out.2.2
          have HRN := Lib.hid (rlen_rls W4 B' r lb A s [102] R P4.out.rl)
          obtain ⟨el, hel⟩ : ∃ z : Nat, z = ends R := ⟨_, rfl⟩
          rw [← hel] at HRN HEN
          have hadd : IntKind.i64.wrap ((el : Int) + 3) = (el : Int) + 3 := IntWalk.i64_in _ (by have := HEN.out; omega)
          have HE3 : Hid ((0 : Int) < (el : Int) + 3 ∧ (el : Int) + 3 ≤ 4611686018427387904) := Lib.hid (by have := HEN.out; omega)
          clear hel
          go_wp2_with fail
          refine HRN.out.mono ?_
          rintro e w' ⟨rfl, rfl⟩
          clear HRN
          by_cases hrm : x.what.tmod 10 = 8
          case pos =>
            have hrm1 : (x.what.tmod 10 == 8) = true := by simpa using hrm
            clear hrm
            obtain ⟨S0c, hdc, hs0c, hcnc⟩ := P4.out.cl.dl.disk
            have HDC := Lib.hid hdc
            have HCC := Lib.hid hcnc
            have y1 := X4.out.c1
            have y2 := X4.out.c2
            clear hdc hs0c hcnc
            go_wp2_with fail
            refine (crash_to W4 w.heap.size d S0c s x.n x.cut HDC.out (by have := HI1.out; omega)).mono ?_
            rintro e w5 ⟨rfl, hp5⟩
            obtain ⟨S5, p5, o5, t5⟩ := P4.out.stepD (HCC.out _ _ hp5)
            have P5 := Lib.hid p5
            have X5 := Lib.hid (X4.out.stepD o5 t5)
            clear hp5 p5 o5 t5 P4 X4 HDC HCC y1 y2
            have y1 := X5.out.c1
            have y2 := X5.out.c2
            go_wp2_with fail
            refine (rcrash_to w5 B' r A s x.n x.cut P5.out.rl.1 GS.out (by have := HI1.out; omega)).mono ?_
            rintro e w6 ⟨rfl, hp6⟩
            have hq6 := P5.out.rl.disk' hp6
            obtain ⟨A6, p6⟩ := P5.out.stepR hq6
            obtain ⟨_, _, o6, _⟩ := hq6
            have P6 := Lib.hid p6
            have X6 : Hid (Px7 w6 S5 xb x) := Lib.hid ⟨(o6.block _ X5.out.lt (fun e => e.elim NXB.out.1 NXB.out.2)).trans X5.out.obj, X5.out.out⟩
            have IT := Lib.hid (HI.out.crash x.n x.cut)
            clear hp6 p6 o6 P5 X5 y1 y2
            obtain ⟨t, ht⟩ : ∃ t, t = s.crash x.n x.cut := ⟨_, rfl⟩
            rw [← ht] at P6 IT
            clear ht
            have y2 := X6.out.c2
            go_wp2_with fail
            refine (pick_any w6 x.cut ((el : Int) + 3) HE3.out.1 HE3.out.2).mono ?_
            rintro e w' ⟨rfl, rfl⟩
            obtain ⟨N, hN⟩ : ∃ z, z = x.cut % ((el : Int) + 3) := ⟨_, rfl⟩
            rw [← hN]
            clear hN X6 y2
            obtain ⟨S0, hds, hs0, hcn⟩ := P6.out.cl.dl.disk
            have HDS := Lib.hid hds
            have HS0 := Lib.hid hs0
            have HCN := Lib.hid hcn
            have GT := Lib.hid P6.out.good
            have HTN := Lib.hid (show t.works ≤ 40 ∧ t.fuse < 100 from by have h1 := IT.out.works; have h2 := IT.out.fuse; omega)
            have HIZ := Lib.hid (IT.out.opens GT.out [102] N)
            have HDO := Lib.hid (open_to w6 w.heap.size d S0 t [102] N HDS.out (by have := HTN.out; omega) (by have := HTN.out; omega) (by decide) (IT.out.ok.files [102]))
            have HRO := Lib.hid (fun W A' (h : RS W B' r A' t) => ropen_to W B' r A' t [102] N h GT.out (by have := HTN.out; omega) (by have := HTN.out; omega) (by decide) (IT.out.ok.files [102]))
            obtain ⟨oz, hoz⟩ : ∃ z, z = openS t [102] N := ⟨_, rfl⟩
            rw [← hoz] at HIZ HDO
            rw [← hoz] at HRO
            clear hoz hds hs0 hcn HDS HTN
            obtain ⟨cd, z, Q⟩ := oz
            go_wp2_with fail
            refine HDO.out.mono ?_
            intro e w17 hp
            unfold OpenPost at hp
            dsimp only at hp
            by_cases hc : cd = 0
            case' pos =>
              rw [if_pos hc] at hp
              obtain ⟨l7, S7, rfl, h7, o7, s7⟩ := hp
              have P17 := Lib.hid (P6.out.openD HS0.out h7 o7 s7)
              clear h7 o7 s7 P6 HDO HS0 HCN
              go_wp2_with fail
              refine (HRO.out w17 _ P17.out.rl.1).mono ?_
              intro e w18 hp
              unfold ROpen at hp
              dsimp only at hp
              rw [if_pos hc] at hp
              obtain ⟨lb8, A8, rfl, h8, o8, a8, g8⟩ := hp
              have P18 := Lib.hid (P17.out.openR h8 o8 a8 g8)
              clear h8 o8 a8 g8 P17 HRO
              go_wp2_with fail
              refine (show Calls Tryz.prog 24 #[.nilIface] w18 _ from nhand w18 0 (HG.out.kb P18.out.cl.bel)).mono ?_
              rintro e w7 ⟨rfl, b9⟩
              have P7 := Lib.hid (P18.out.kb b9)
              have HI7 : Hid (Iv (k + 1) z Q) := Lib.hid HIZ.out
              clear b9 P18 HIZ hc
              go_wp2_with fail
              refine (lsame7_to w7 _ d l7 B' r lb8 _ _ z Q P7.out.cl.dl P7.out.rl (by have := HI7.out.works; omega)).mono ?_
              rintro e w8 ⟨rfl, b8⟩
              have P8 := Lib.hid (P7.out.kb b8)
              clear b8 P7
              go_wp2_with fail
              exact ⟨⟨k + 1, _, _, _, _, z, Q, by omega, by omega, rfl, rfl, by simp, P8, HI7⟩, by simp [intOf]; omega⟩
            case neg =>
              rw [if_neg hc] at hp
              obtain ⟨v, rfl, om, dm⟩ := hp
              obtain ⟨S7, p7, _, _⟩ := P6.out.stepD (HCN.out _ _ dm)
              have P17 := Lib.hid p7
              obtain ⟨tm, xm, rfl⟩ := om.form
              have OM := Lib.hid om
              have HLT := Lib.hid P6.out.rl.lts
              clear p7 om dm P6 HDO HS0 HCN
              go_wp2_with fail
              refine (HRO.out w17 _ P17.out.rl.1).mono ?_
              intro e w18 hp
              unfold ROpen at hp
              dsimp only at hp
              rw [if_neg hc] at hp
              obtain ⟨rfl, hp⟩ := hp
              have hq := P17.out.rl.disk' hp
              obtain ⟨A8, p8⟩ := P17.out.stepR hq
              obtain ⟨_, _, o8, _⟩ := hq
              have P18 := Lib.hid p8
              have OM8 := Lib.hid (OM.out.only o8 (fun k hk => hk.elim (fun e => e ▸ HLT.out.2.1) (fun e => e ▸ HLT.out.2.2)))
              have HC := Lib.hid hc
              have hc1 : (cd != 0) = true := by simpa using hc
              have hc2 : (cd == 0) = false := by simpa using hc
              clear p8 o8 hp P17 OM HRO
              go_wp2_with fail
              refine (ohand w18 _ cd _ OM8.out HC.out (HG.out.kb P18.out.cl.bel)).mono ?_
              rintro e w7 ⟨rfl, b9⟩
              have P7 := Lib.hid (P18.out.kb b9)
              clear b9 P18 OM8
              go_wp2_with fail
              go_ret
              exact ⟨rfl, P7.out.cl.bel⟩
          case neg =>
            have hrm1 : (x.what.tmod 10 == 8) = false := by simpa using hrm
            clear hrm
            obtain ⟨S0d, hdd, _, _⟩ := P4.out.cl.dl.disk
            have HDD := Lib.hid (dead_ds W4 w.heap.size d S0d s hdd)
            clear hdd
            obtain ⟨db, hdb⟩ : ∃ z, z = s.dead := ⟨_, rfl⟩
            rw [← hdb] at HDD
            clear hdb
            go_wp2_with fail
            refine HDD.out.mono ?_
            rintro e w' ⟨rfl, rfl⟩
            clear HDD x0 hrm1
            cases db
            case true =>
              obtain ⟨S0c, hdc, hs0c, hcnc⟩ := P4.out.cl.dl.disk
              have HDC := Lib.hid hdc
              have HCC := Lib.hid hcnc
              have y1 := X4.out.c1
              have y2 := X4.out.c2
              clear hdc hs0c hcnc
              go_wp2_with fail
              refine (crash_to W4 w.heap.size d S0c s x.n x.cut HDC.out (by have := HI1.out; omega)).mono ?_
              rintro e w5 ⟨rfl, hp5⟩
              obtain ⟨S5, p5, o5, t5⟩ := P4.out.stepD (HCC.out _ _ hp5)
              have P5 := Lib.hid p5
              have X5 := Lib.hid (X4.out.stepD o5 t5)
              clear hp5 p5 o5 t5 P4 X4 HDC HCC y1 y2
              have y1 := X5.out.c1
              have y2 := X5.out.c2
              go_wp2_with fail
              refine (rcrash_to w5 B' r A s x.n x.cut P5.out.rl.1 GS.out (by have := HI1.out; omega)).mono ?_
              rintro e w6 ⟨rfl, hp6⟩
              have hq6 := P5.out.rl.disk' hp6
              obtain ⟨A6, p6⟩ := P5.out.stepR hq6
              obtain ⟨_, _, o6, _⟩ := hq6
              have P6 := Lib.hid p6
              have X6 : Hid (Px7 w6 S5 xb x) := Lib.hid ⟨(o6.block _ X5.out.lt (fun e => e.elim NXB.out.1 NXB.out.2)).trans X5.out.obj, X5.out.out⟩
              have IT := Lib.hid (HI.out.crash x.n x.cut)
              clear hp6 p6 o6 P5 X5 y1 y2
              obtain ⟨t, ht⟩ : ∃ t, t = s.crash x.n x.cut := ⟨_, rfl⟩
              rw [← ht] at P6 IT
              clear ht
              have y2 := X6.out.c2
              go_wp2_with fail
              refine (pick_any w6 x.cut ((el : Int) + 3) HE3.out.1 HE3.out.2).mono ?_
              rintro e w' ⟨rfl, rfl⟩
              obtain ⟨N, hN⟩ : ∃ z, z = x.cut % ((el : Int) + 3) := ⟨_, rfl⟩
              rw [← hN]
              clear hN X6 y2
              obtain ⟨S0, hds, hs0, hcn⟩ := P6.out.cl.dl.disk
              have HDS := Lib.hid hds
              have HS0 := Lib.hid hs0
              have HCN := Lib.hid hcn
              have GT := Lib.hid P6.out.good
              have HTN := Lib.hid (show t.works ≤ 40 ∧ t.fuse < 100 from by have h1 := IT.out.works; have h2 := IT.out.fuse; omega)
              have HIZ := Lib.hid (IT.out.opens GT.out [102] N)
              have HDO := Lib.hid (open_to w6 w.heap.size d S0 t [102] N HDS.out (by have := HTN.out; omega) (by have := HTN.out; omega) (by decide) (IT.out.ok.files [102]))
              have HRO := Lib.hid (fun W A' (h : RS W B' r A' t) => ropen_to W B' r A' t [102] N h GT.out (by have := HTN.out; omega) (by have := HTN.out; omega) (by decide) (IT.out.ok.files [102]))
              obtain ⟨oz, hoz⟩ : ∃ z, z = openS t [102] N := ⟨_, rfl⟩
              rw [← hoz] at HIZ HDO
              rw [← hoz] at HRO
              clear hoz hds hs0 hcn HDS HTN
              obtain ⟨cd, z, Q⟩ := oz
              go_wp2_with fail
              refine HDO.out.mono ?_
              intro e w17 hp
              unfold OpenPost at hp
              dsimp only at hp
              by_cases hc : cd = 0
              case' pos =>
                rw [if_pos hc] at hp
                obtain ⟨l7, S7, rfl, h7, o7, s7⟩ := hp
                have P17 := Lib.hid (P6.out.openD HS0.out h7 o7 s7)
                clear h7 o7 s7 P6 HDO HS0 HCN
                go_wp2_with fail
                refine (HRO.out w17 _ P17.out.rl.1).mono ?_
                intro e w18 hp
                unfold ROpen at hp
                dsimp only at hp
                rw [if_pos hc] at hp
                obtain ⟨lb8, A8, rfl, h8, o8, a8, g8⟩ := hp
                have P18 := Lib.hid (P17.out.openR h8 o8 a8 g8)
                clear h8 o8 a8 g8 P17 HRO
                go_wp2_with fail
                refine (show Calls Tryz.prog 24 #[.nilIface] w18 _ from nhand w18 0 (HG.out.kb P18.out.cl.bel)).mono ?_
                rintro e w7 ⟨rfl, b9⟩
                have P7 := Lib.hid (P18.out.kb b9)
                have HI7 : Hid (Iv (k + 1) z Q) := Lib.hid HIZ.out
                clear b9 P18 HIZ hc
                go_wp2_with fail
                refine (lsame7_to w7 _ d l7 B' r lb8 _ _ z Q P7.out.cl.dl P7.out.rl (by have := HI7.out.works; omega)).mono ?_
                rintro e w8 ⟨rfl, b8⟩
                have P8 := Lib.hid (P7.out.kb b8)
                clear b8 P7
                go_wp2_with fail
                exact ⟨⟨k + 1, _, _, _, _, z, Q, by omega, by omega, rfl, rfl, by simp, P8, HI7⟩, by simp [intOf]; omega⟩
              case neg =>
                rw [if_neg hc] at hp
                obtain ⟨v, rfl, om, dm⟩ := hp
                obtain ⟨S7, p7, _, _⟩ := P6.out.stepD (HCN.out _ _ dm)
                have P17 := Lib.hid p7
                obtain ⟨tm, xm, rfl⟩ := om.form
                have OM := Lib.hid om
                have HLT := Lib.hid P6.out.rl.lts
                clear p7 om dm P6 HDO HS0 HCN
                go_wp2_with fail
                refine (HRO.out w17 _ P17.out.rl.1).mono ?_
                intro e w18 hp
                unfold ROpen at hp
                dsimp only at hp
                rw [if_neg hc] at hp
                obtain ⟨rfl, hp⟩ := hp
                have hq := P17.out.rl.disk' hp
                obtain ⟨A8, p8⟩ := P17.out.stepR hq
                obtain ⟨_, _, o8, _⟩ := hq
                have P18 := Lib.hid p8
                have OM8 := Lib.hid (OM.out.only o8 (fun k hk => hk.elim (fun e => e ▸ HLT.out.2.1) (fun e => e ▸ HLT.out.2.2)))
                have HC := Lib.hid hc
                have hc1 : (cd != 0) = true := by simpa using hc
                have hc2 : (cd == 0) = false := by simpa using hc
                clear p8 o8 hp P17 OM HRO
                go_wp2_with fail
                refine (ohand w18 _ cd _ OM8.out HC.out (HG.out.kb P18.out.cl.bel)).mono ?_
                rintro e w7 ⟨rfl, b9⟩
                have P7 := Lib.hid (P18.out.kb b9)
                clear b9 P18 OM8
                go_wp2_with fail
                go_ret
                exact ⟨rfl, P7.out.cl.bel⟩
            case false =>
              have P6 := Lib.hid P4.out
              obtain ⟨t, ht⟩ : ∃ t, t = s := ⟨_, rfl⟩
              have IT := Lib.hid HI.out
              rw [← ht] at P6 IT
              clear ht P4 X4
              generalize W4 = w6 at *
              obtain ⟨N, hN⟩ : ∃ z : Int, z = (el : Int) := ⟨_, rfl⟩
              rw [← hN]
              clear hN
              obtain ⟨S0, hds, hs0, hcn⟩ := P6.out.cl.dl.disk
              have HDS := Lib.hid hds
              have HS0 := Lib.hid hs0
              have HCN := Lib.hid hcn
              have GT := Lib.hid P6.out.good
              have HTN := Lib.hid (show t.works ≤ 40 ∧ t.fuse < 100 from by have h1 := IT.out.works; have h2 := IT.out.fuse; omega)
              have HIZ := Lib.hid (IT.out.opens GT.out [102] N)
              have HDO := Lib.hid (open_to w6 w.heap.size d S0 t [102] N HDS.out (by have := HTN.out; omega) (by have := HTN.out; omega) (by decide) (IT.out.ok.files [102]))
              have HRO := Lib.hid (fun W A' (h : RS W B' r A' t) => ropen_to W B' r A' t [102] N h GT.out (by have := HTN.out; omega) (by have := HTN.out; omega) (by decide) (IT.out.ok.files [102]))
              obtain ⟨oz, hoz⟩ : ∃ z, z = openS t [102] N := ⟨_, rfl⟩
              rw [← hoz] at HIZ HDO
              rw [← hoz] at HRO
              clear hoz hds hs0 hcn HDS HTN
              obtain ⟨cd, z, Q⟩ := oz
              go_wp2_with fail
              refine HDO.out.mono ?_
              intro e w17 hp
              unfold OpenPost at hp
              dsimp only at hp
              by_cases hc : cd = 0
              case' pos =>
                rw [if_pos hc] at hp
                obtain ⟨l7, S7, rfl, h7, o7, s7⟩ := hp
                have P17 := Lib.hid (P6.out.openD HS0.out h7 o7 s7)
                clear h7 o7 s7 P6 HDO HS0 HCN
                go_wp2_with fail
                refine (HRO.out w17 _ P17.out.rl.1).mono ?_
                intro e w18 hp
                unfold ROpen at hp
                dsimp only at hp
                rw [if_pos hc] at hp
                obtain ⟨lb8, A8, rfl, h8, o8, a8, g8⟩ := hp
                have P18 := Lib.hid (P17.out.openR h8 o8 a8 g8)
                clear h8 o8 a8 g8 P17 HRO
                go_wp2_with fail
                refine (show Calls Tryz.prog 24 #[.nilIface] w18 _ from nhand w18 0 (HG.out.kb P18.out.cl.bel)).mono ?_
                rintro e w7 ⟨rfl, b9⟩
                have P7 := Lib.hid (P18.out.kb b9)
                have HI7 : Hid (Iv (k + 1) z Q) := Lib.hid HIZ.out
                clear b9 P18 HIZ hc
                go_wp2_with fail
                refine (lsame7_to w7 _ d l7 B' r lb8 _ _ z Q P7.out.cl.dl P7.out.rl (by have := HI7.out.works; omega)).mono ?_
                rintro e w8 ⟨rfl, b8⟩
                have P8 := Lib.hid (P7.out.kb b8)
                clear b8 P7
                go_wp2_with fail
                exact ⟨⟨k + 1, _, _, _, _, z, Q, by omega, by omega, rfl, rfl, by simp, P8, HI7⟩, by simp [intOf]; omega⟩
              case neg =>
                rw [if_neg hc] at hp
                obtain ⟨v, rfl, om, dm⟩ := hp
                obtain ⟨S7, p7, _, _⟩ := P6.out.stepD (HCN.out _ _ dm)
                have P17 := Lib.hid p7
                obtain ⟨tm, xm, rfl⟩ := om.form
                have OM := Lib.hid om
                have HLT := Lib.hid P6.out.rl.lts
                clear p7 om dm P6 HDO HS0 HCN
                go_wp2_with fail
                refine (HRO.out w17 _ P17.out.rl.1).mono ?_
                intro e w18 hp
                unfold ROpen at hp
                dsimp only at hp
                rw [if_neg hc] at hp
                obtain ⟨rfl, hp⟩ := hp
                have hq := P17.out.rl.disk' hp
                obtain ⟨A8, p8⟩ := P17.out.stepR hq
                obtain ⟨_, _, o8, _⟩ := hq
                have P18 := Lib.hid p8
                have OM8 := Lib.hid (OM.out.only o8 (fun k hk => hk.elim (fun e => e ▸ HLT.out.2.1) (fun e => e ▸ HLT.out.2.2)))
                have HC := Lib.hid hc
                have hc1 : (cd != 0) = true := by simpa using hc
                have hc2 : (cd == 0) = false := by simpa using hc
                clear p8 o8 hp P17 OM HRO
                go_wp2_with fail
                refine (ohand w18 _ cd _ OM8.out HC.out (HG.out.kb P18.out.cl.bel)).mono ?_
                rintro e w7 ⟨rfl, b9⟩
                have P7 := Lib.hid (P18.out.kb b9)
                clear b9 P18 OM8
                go_wp2_with fail
                go_ret
                exact ⟨rfl, P7.out.cl.bel⟩
        · have HPK := Lib.hid (pick_to W4 x.what 10 8 (by decide) (by decide) h10)
          have x0 := X4.out.c0
          go_wp2_with fail
          refine HPK.out.mono ?_
          rintro e w' ⟨rfl, rfl⟩
          clear HPK h10
          have HEN : Hid (ends R ≤ 900000000) := Lib.hid HI1.out.2.2
          have HRN := Lib.hid (rlen_rls W4 B' r lb A s [102] R P4.out.rl)
          obtain ⟨el, hel⟩ : ∃ z : Nat, z = ends R := ⟨_, rfl⟩
          rw [← hel] at HRN HEN
          have hadd : IntKind.i64.wrap ((el : Int) + 3) = (el : Int) + 3 := IntWalk.i64_in _ (by have := HEN.out; omega)
          have HE3 : Hid ((0 : Int) < (el : Int) + 3 ∧ (el : Int) + 3 ≤ 4611686018427387904) := Lib.hid (by have := HEN.out; omega)
          clear hel
          go_wp2_with fail
          refine HRN.out.mono ?_
          rintro e w' ⟨rfl, rfl⟩
          clear HRN
          by_cases hrm : x.what.tmod 10 = 8
          case pos =>
            have hrm1 : (x.what.tmod 10 == 8) = true := by simpa using hrm
            clear hrm
            obtain ⟨S0c, hdc, hs0c, hcnc⟩ := P4.out.cl.dl.disk
            have HDC := Lib.hid hdc
            have HCC := Lib.hid hcnc
            have y1 := X4.out.c1
            have y2 := X4.out.c2
            clear hdc hs0c hcnc
            go_wp2_with fail
            refine (crash_to W4 w.heap.size d S0c s x.n x.cut HDC.out (by have := HI1.out; omega)).mono ?_
            rintro e w5 ⟨rfl, hp5⟩
            obtain ⟨S5, p5, o5, t5⟩ := P4.out.stepD (HCC.out _ _ hp5)
            have P5 := Lib.hid p5
            have X5 := Lib.hid (X4.out.stepD o5 t5)
            clear hp5 p5 o5 t5 P4 X4 HDC HCC y1 y2
            have y1 := X5.out.c1
            have y2 := X5.out.c2
            go_wp2_with fail
            refine (rcrash_to w5 B' r A s x.n x.cut P5.out.rl.1 GS.out (by have := HI1.out; omega)).mono ?_
            rintro e w6 ⟨rfl, hp6⟩
            have hq6 := P5.out.rl.disk' hp6
            obtain ⟨A6, p6⟩ := P5.out.stepR hq6
            obtain ⟨_, _, o6, _⟩ := hq6
            have P6 := Lib.hid p6
            have X6 : Hid (Px7 w6 S5 xb x) := Lib.hid ⟨(o6.block _ X5.out.lt (fun e => e.elim NXB.out.1 NXB.out.2)).trans X5.out.obj, X5.out.out⟩
            have IT := Lib.hid (HI.out.crash x.n x.cut)
            clear hp6 p6 o6 P5 X5 y1 y2
            obtain ⟨t, ht⟩ : ∃ t, t = s.crash x.n x.cut := ⟨_, rfl⟩
            rw [← ht] at P6 IT
            clear ht
            have y2 := X6.out.c2
            go_wp2_with fail
            refine (pick_any w6 x.cut ((el : Int) + 3) HE3.out.1 HE3.out.2).mono ?_
            rintro e w' ⟨rfl, rfl⟩
            obtain ⟨N, hN⟩ : ∃ z, z = x.cut % ((el : Int) + 3) := ⟨_, rfl⟩
            rw [← hN]
            clear hN X6 y2
            obtain ⟨S0, hds, hs0, hcn⟩ := P6.out.cl.dl.disk
            have HDS := Lib.hid hds
            have HS0 := Lib.hid hs0
            have HCN := Lib.hid hcn
            have GT := Lib.hid P6.out.good
            have HTN := Lib.hid (show t.works ≤ 40 ∧ t.fuse < 100 from by have h1 := IT.out.works; have h2 := IT.out.fuse; omega)
            have HIZ := Lib.hid (IT.out.opens GT.out [102] N)
            have HDO := Lib.hid (open_to w6 w.heap.size d S0 t [102] N HDS.out (by have := HTN.out; omega) (by have := HTN.out; omega) (by decide) (IT.out.ok.files [102]))
            have HRO := Lib.hid (fun W A' (h : RS W B' r A' t) => ropen_to W B' r A' t [102] N h GT.out (by have := HTN.out; omega) (by have := HTN.out; omega) (by decide) (IT.out.ok.files [102]))
            obtain ⟨oz, hoz⟩ : ∃ z, z = openS t [102] N := ⟨_, rfl⟩
            rw [← hoz] at HIZ HDO
            rw [← hoz] at HRO
            clear hoz hds hs0 hcn HDS HTN
            obtain ⟨cd, z, Q⟩ := oz
            go_wp2_with fail
            refine HDO.out.mono ?_
            intro e w17 hp
            unfold OpenPost at hp
            dsimp only at hp
            by_cases hc : cd = 0
            case' pos =>
              rw [if_pos hc] at hp
              obtain ⟨l7, S7, rfl, h7, o7, s7⟩ := hp
              have P17 := Lib.hid (P6.out.openD HS0.out h7 o7 s7)
              clear h7 o7 s7 P6 HDO HS0 HCN
              go_wp2_with fail
              refine (HRO.out w17 _ P17.out.rl.1).mono ?_
              intro e w18 hp
              unfold ROpen at hp
              dsimp only at hp
              rw [if_pos hc] at hp
              obtain ⟨lb8, A8, rfl, h8, o8, a8, g8⟩ := hp
              have P18 := Lib.hid (P17.out.openR h8 o8 a8 g8)
              clear h8 o8 a8 g8 P17 HRO
              go_wp2_with fail
              refine (show Calls Tryz.prog 24 #[.nilIface] w18 _ from nhand w18 0 (HG.out.kb P18.out.cl.bel)).mono ?_
              rintro e w7 ⟨rfl, b9⟩
              have P7 := Lib.hid (P18.out.kb b9)
              have HI7 : Hid (Iv (k + 1) z Q) := Lib.hid HIZ.out
              clear b9 P18 HIZ hc
              go_wp2_with fail
              refine (lsame7_to w7 _ d l7 B' r lb8 _ _ z Q P7.out.cl.dl P7.out.rl (by have := HI7.out.works; omega)).mono ?_
              rintro e w8 ⟨rfl, b8⟩
              have P8 := Lib.hid (P7.out.kb b8)
              clear b8 P7
              go_wp2_with fail
              exact ⟨⟨k + 1, _, _, _, _, z, Q, by omega, by omega, rfl, rfl, by simp, P8, HI7⟩, by simp [intOf]; omega⟩
            case neg =>
              rw [if_neg hc] at hp
              obtain ⟨v, rfl, om, dm⟩ := hp
              obtain ⟨S7, p7, _, _⟩ := P6.out.stepD (HCN.out _ _ dm)
              have P17 := Lib.hid p7
              obtain ⟨tm, xm, rfl⟩ := om.form
              have OM := Lib.hid om
              have HLT := Lib.hid P6.out.rl.lts
              clear p7 om dm P6 HDO HS0 HCN
              go_wp2_with fail
              refine (HRO.out w17 _ P17.out.rl.1).mono ?_
              intro e w18 hp
              unfold ROpen at hp
              dsimp only at hp
              rw [if_neg hc] at hp
              obtain ⟨rfl, hp⟩ := hp
              have hq := P17.out.rl.disk' hp
              obtain ⟨A8, p8⟩ := P17.out.stepR hq
              obtain ⟨_, _, o8, _⟩ := hq
              have P18 := Lib.hid p8
              have OM8 := Lib.hid (OM.out.only o8 (fun k hk => hk.elim (fun e => e ▸ HLT.out.2.1) (fun e => e ▸ HLT.out.2.2)))
              have HC := Lib.hid hc
              have hc1 : (cd != 0) = true := by simpa using hc
              have hc2 : (cd == 0) = false := by simpa using hc
              clear p8 o8 hp P17 OM HRO
              go_wp2_with fail
              refine (ohand w18 _ cd _ OM8.out HC.out (HG.out.kb P18.out.cl.bel)).mono ?_
              rintro e w7 ⟨rfl, b9⟩
              have P7 := Lib.hid (P18.out.kb b9)
              clear b9 P18 OM8
              go_wp2_with fail
              go_ret
              exact ⟨rfl, P7.out.cl.bel⟩
          case neg =>
            have hrm1 : (x.what.tmod 10 == 8) = false := by simpa using hrm
            clear hrm
            obtain ⟨S0d, hdd, _, _⟩ := P4.out.cl.dl.disk
            have HDD := Lib.hid (dead_ds W4 w.heap.size d S0d s hdd)
            clear hdd
            obtain ⟨db, hdb⟩ : ∃ z, z = s.dead := ⟨_, rfl⟩
            rw [← hdb] at HDD
            clear hdb
            go_wp2_with fail
            refine HDD.out.mono ?_
            rintro e w' ⟨rfl, rfl⟩
            clear HDD x0 hrm1
            cases db
            case true =>
              obtain ⟨S0c, hdc, hs0c, hcnc⟩ := P4.out.cl.dl.disk
              have HDC := Lib.hid hdc
              have HCC := Lib.hid hcnc
              have y1 := X4.out.c1
              have y2 := X4.out.c2
              clear hdc hs0c hcnc
              go_wp2_with fail
              refine (crash_to W4 w.heap.size d S0c s x.n x.cut HDC.out (by have := HI1.out; omega)).mono ?_
              rintro e w5 ⟨rfl, hp5⟩
              obtain ⟨S5, p5, o5, t5⟩ := P4.out.stepD (HCC.out _ _ hp5)
              have P5 := Lib.hid p5
              have X5 := Lib.hid (X4.out.stepD o5 t5)
              clear hp5 p5 o5 t5 P4 X4 HDC HCC y1 y2
              have y1 := X5.out.c1
              have y2 := X5.out.c2
              go_wp2_with fail
              refine (rcrash_to w5 B' r A s x.n x.cut P5.out.rl.1 GS.out (by have := HI1.out; omega)).mono ?_
              rintro e w6 ⟨rfl, hp6⟩
              have hq6 := P5.out.rl.disk' hp6
              obtain ⟨A6, p6⟩ := P5.out.stepR hq6
              obtain ⟨_, _, o6, _⟩ := hq6
              have P6 := Lib.hid p6
              have X6 : Hid (Px7 w6 S5 xb x) := Lib.hid ⟨(o6.block _ X5.out.lt (fun e => e.elim NXB.out.1 NXB.out.2)).trans X5.out.obj, X5.out.out⟩
              have IT := Lib.hid (HI.out.crash x.n x.cut)
              clear hp6 p6 o6 P5 X5 y1 y2
              obtain ⟨t, ht⟩ : ∃ t, t = s.crash x.n x.cut := ⟨_, rfl⟩
              rw [← ht] at P6 IT
              clear ht
              have y2 := X6.out.c2
              go_wp2_with fail
              refine (pick_any w6 x.cut ((el : Int) + 3) HE3.out.1 HE3.out.2).mono ?_
              rintro e w' ⟨rfl, rfl⟩
              obtain ⟨N, hN⟩ : ∃ z, z = x.cut % ((el : Int) + 3) := ⟨_, rfl⟩
              rw [← hN]
              clear hN X6 y2
              obtain ⟨S0, hds, hs0, hcn⟩ := P6.out.cl.dl.disk
              have HDS := Lib.hid hds
              have HS0 := Lib.hid hs0
              have HCN := Lib.hid hcn
              have GT := Lib.hid P6.out.good
              have HTN := Lib.hid (show t.works ≤ 40 ∧ t.fuse < 100 from by have h1 := IT.out.works; have h2 := IT.out.fuse; omega)
              have HIZ := Lib.hid (IT.out.opens GT.out [102] N)
              have HDO := Lib.hid (open_to w6 w.heap.size d S0 t [102] N HDS.out (by have := HTN.out; omega) (by have := HTN.out; omega) (by decide) (IT.out.ok.files [102]))
              have HRO := Lib.hid (fun W A' (h : RS W B' r A' t) => ropen_to W B' r A' t [102] N h GT.out (by have := HTN.out; omega) (by have := HTN.out; omega) (by decide) (IT.out.ok.files [102]))
              obtain ⟨oz, hoz⟩ : ∃ z, z = openS t [102] N := ⟨_, rfl⟩
              rw [← hoz] at HIZ HDO
              rw [← hoz] at HRO
              clear hoz hds hs0 hcn HDS HTN
              obtain ⟨cd, z, Q⟩ := oz
              go_wp2_with fail
              refine HDO.out.mono ?_
              intro e w17 hp
              unfold OpenPost at hp
              dsimp only at hp
              by_cases hc : cd = 0
              case' pos =>
                rw [if_pos hc] at hp
                obtain ⟨l7, S7, rfl, h7, o7, s7⟩ := hp
                have P17 := Lib.hid (P6.out.openD HS0.out h7 o7 s7)
                clear h7 o7 s7 P6 HDO HS0 HCN
                go_wp2_with fail
                refine (HRO.out w17 _ P17.out.rl.1).mono ?_
                intro e w18 hp
                unfold ROpen at hp
                dsimp only at hp
                rw [if_pos hc] at hp
                obtain ⟨lb8, A8, rfl, h8, o8, a8, g8⟩ := hp
                have P18 := Lib.hid (P17.out.openR h8 o8 a8 g8)
                clear h8 o8 a8 g8 P17 HRO
                go_wp2_with fail
                refine (show Calls Tryz.prog 24 #[.nilIface] w18 _ from nhand w18 0 (HG.out.kb P18.out.cl.bel)).mono ?_
                rintro e w7 ⟨rfl, b9⟩
                have P7 := Lib.hid (P18.out.kb b9)
                have HI7 : Hid (Iv (k + 1) z Q) := Lib.hid HIZ.out
                clear b9 P18 HIZ hc
                go_wp2_with fail
                refine (lsame7_to w7 _ d l7 B' r lb8 _ _ z Q P7.out.cl.dl P7.out.rl (by have := HI7.out.works; omega)).mono ?_
                rintro e w8 ⟨rfl, b8⟩
                have P8 := Lib.hid (P7.out.kb b8)
                clear b8 P7
                go_wp2_with fail
                exact ⟨⟨k + 1, _, _, _, _, z, Q, by omega, by omega, rfl, rfl, by simp, P8, HI7⟩, by simp [intOf]; omega⟩
              case neg =>
                rw [if_neg hc] at hp
                obtain ⟨v, rfl, om, dm⟩ := hp
                obtain ⟨S7, p7, _, _⟩ := P6.out.stepD (HCN.out _ _ dm)
                have P17 := Lib.hid p7
                obtain ⟨tm, xm, rfl⟩ := om.form
                have OM := Lib.hid om
                have HLT := Lib.hid P6.out.rl.lts
                clear p7 om dm P6 HDO HS0 HCN
                go_wp2_with fail
                refine (HRO.out w17 _ P17.out.rl.1).mono ?_
                intro e w18 hp
                unfold ROpen at hp
                dsimp only at hp
                rw [if_neg hc] at hp
                obtain ⟨rfl, hp⟩ := hp
                have hq := P17.out.rl.disk' hp
                obtain ⟨A8, p8⟩ := P17.out.stepR hq
                obtain ⟨_, _, o8, _⟩ := hq
                have P18 := Lib.hid p8
                have OM8 := Lib.hid (OM.out.only o8 (fun k hk => hk.elim (fun e => e ▸ HLT.out.2.1) (fun e => e ▸ HLT.out.2.2)))
                have HC := Lib.hid hc
                have hc1 : (cd != 0) = true := by simpa using hc
                have hc2 : (cd == 0) = false := by simpa using hc
                clear p8 o8 hp P17 OM HRO
                go_wp2_with fail
                refine (ohand w18 _ cd _ OM8.out HC.out (HG.out.kb P18.out.cl.bel)).mono ?_
                rintro e w7 ⟨rfl, b9⟩
                have P7 := Lib.hid (P18.out.kb b9)
                clear b9 P18 OM8
                go_wp2_with fail
                go_ret
                exact ⟨rfl, P7.out.cl.bel⟩
            case false =>
              have P6 := Lib.hid P4.out
              obtain ⟨t, ht⟩ : ∃ t, t = s := ⟨_, rfl⟩
              have IT := Lib.hid HI.out
              rw [← ht] at P6 IT
              clear ht P4 X4
              generalize W4 = w6 at *
              obtain ⟨N, hN⟩ : ∃ z : Int, z = (el : Int) := ⟨_, rfl⟩
              rw [← hN]
              clear hN
              obtain ⟨S0, hds, hs0, hcn⟩ := P6.out.cl.dl.disk
              have HDS := Lib.hid hds
              have HS0 := Lib.hid hs0
              have HCN := Lib.hid hcn
              have GT := Lib.hid P6.out.good
              have HTN := Lib.hid (show t.works ≤ 40 ∧ t.fuse < 100 from by have h1 := IT.out.works; have h2 := IT.out.fuse; omega)
              have HIZ := Lib.hid (IT.out.opens GT.out [102] N)
              have HDO := Lib.hid (open_to w6 w.heap.size d S0 t [102] N HDS.out (by have := HTN.out; omega) (by have := HTN.out; omega) (by decide) (IT.out.ok.files [102]))
              have HRO := Lib.hid (fun W A' (h : RS W B' r A' t) => ropen_to W B' r A' t [102] N h GT.out (by have := HTN.out; omega) (by have := HTN.out; omega) (by decide) (IT.out.ok.files [102]))
              obtain ⟨oz, hoz⟩ : ∃ z, z = openS t [102] N := ⟨_, rfl⟩
              rw [← hoz] at HIZ HDO
              rw [← hoz] at HRO
              clear hoz hds hs0 hcn HDS HTN
              obtain ⟨cd, z, Q⟩ := oz
              go_wp2_with fail
              refine HDO.out.mono ?_
              intro e w17 hp
              unfold OpenPost at hp
              dsimp only at hp
              by_cases hc : cd = 0
              case' pos =>
                rw [if_pos hc] at hp
                obtain ⟨l7, S7, rfl, h7, o7, s7⟩ := hp
                have P17 := Lib.hid (P6.out.openD HS0.out h7 o7 s7)
                clear h7 o7 s7 P6 HDO HS0 HCN
                go_wp2_with fail
                refine (HRO.out w17 _ P17.out.rl.1).mono ?_
                intro e w18 hp
                unfold ROpen at hp
                dsimp only at hp
                rw [if_pos hc] at hp
                obtain ⟨lb8, A8, rfl, h8, o8, a8, g8⟩ := hp
                have P18 := Lib.hid (P17.out.openR h8 o8 a8 g8)
                clear h8 o8 a8 g8 P17 HRO
                go_wp2_with fail
                refine (show Calls Tryz.prog 24 #[.nilIface] w18 _ from nhand w18 0 (HG.out.kb P18.out.cl.bel)).mono ?_
                rintro e w7 ⟨rfl, b9⟩
                have P7 := Lib.hid (P18.out.kb b9)
                have HI7 : Hid (Iv (k + 1) z Q) := Lib.hid HIZ.out
                clear b9 P18 HIZ hc
                go_wp2_with fail
                refine (lsame7_to w7 _ d l7 B' r lb8 _ _ z Q P7.out.cl.dl P7.out.rl (by have := HI7.out.works; omega)).mono ?_
                rintro e w8 ⟨rfl, b8⟩
                have P8 := Lib.hid (P7.out.kb b8)
                clear b8 P7
                go_wp2_with fail
                exact ⟨⟨k + 1, _, _, _, _, z, Q, by omega, by omega, rfl, rfl, by simp, P8, HI7⟩, by simp [intOf]; omega⟩
              case neg =>
                rw [if_neg hc] at hp
                obtain ⟨v, rfl, om, dm⟩ := hp
                obtain ⟨S7, p7, _, _⟩ := P6.out.stepD (HCN.out _ _ dm)
                have P17 := Lib.hid p7
                obtain ⟨tm, xm, rfl⟩ := om.form
                have OM := Lib.hid om
                have HLT := Lib.hid P6.out.rl.lts
                clear p7 om dm P6 HDO HS0 HCN
                go_wp2_with fail
                refine (HRO.out w17 _ P17.out.rl.1).mono ?_
                intro e w18 hp
                unfold ROpen at hp
                dsimp only at hp
                rw [if_neg hc] at hp
                obtain ⟨rfl, hp⟩ := hp
                have hq := P17.out.rl.disk' hp
                obtain ⟨A8, p8⟩ := P17.out.stepR hq
                obtain ⟨_, _, o8, _⟩ := hq
                have P18 := Lib.hid p8
                have OM8 := Lib.hid (OM.out.only o8 (fun k hk => hk.elim (fun e => e ▸ HLT.out.2.1) (fun e => e ▸ HLT.out.2.2)))
                have HC := Lib.hid hc
                have hc1 : (cd != 0) = true := by simpa using hc
                have hc2 : (cd == 0) = false := by simpa using hc
                clear p8 o8 hp P17 OM HRO
                go_wp2_with fail
                refine (ohand w18 _ cd _ OM8.out HC.out (HG.out.kb P18.out.cl.bel)).mono ?_
                rintro e w7 ⟨rfl, b9⟩
                have P7 := Lib.hid (P18.out.kb b9)
                clear b9 P18 OM8
                go_wp2_with fail
                go_ret
                exact ⟨rfl, P7.out.cl.bel⟩
    · as_aux_lemma =>
        obtain ⟨zz, hzz⟩ : ∃ z, x.what % 10 = z := ⟨_, rfl⟩
        have HPK := Lib.hid (pick_to W4 x.what 10 zz (by decide) (by decide) hzz)
        rw [hzz] at h10
        obtain ⟨h6, h7, h8, h9⟩ := h10
        have h6' : (zz == 6) = false := by simpa using h6
        have h7' : (zz == 7) = false := by simpa using h7
        have h8' : (zz == 8) = false := by simpa using h8
        have h9' : (zz == 9) = false := by simpa using h9
        have x0 := X4.out.c0
        clear hzz
        go_wp2_with fail
        refine HPK.out.mono ?_
        rintro e w' ⟨rfl, rfl⟩
        clear HPK x0
        have BD : Hid (Below W4.heap.size W4 W4.drew) := Lib.hid (below_dn (m := 1) (Below.refl _ W4))
        have P4d := Lib.hid (P4.out.kb BD.out)
        have X4d := Lib.hid (X4.out.kb BD.out)
        obtain ⟨q, hq⟩ : ∃ q : Int, q = x.n % 258 - 1 := ⟨_, rfl⟩
        have hqw : IntKind.i64.wrap (x.n % 258 - 1) = q := by rw [hq]; exact IntWalk.i64_in _ (by omega)
        have hqw' : x.n % 258 - 1 = q := hq.symm
        have hqq : IntKind.i64.wrap q = q := by rw [hq]; exact IntWalk.i64_in _ (by omega)
        have HXT : Hid (Okb (x.b.take 50) ∧ (x.b.take 50).length ≤ 50) := Lib.hid ⟨HXB.out.1.take 50, by rw [List.length_take]; omega⟩
        have HIZ := Lib.hid (HI.out.add [102] q HXT.out.1 HXT.out.2)
        have HFW := Lib.hid (fun W (hW : Below w.heap.size w W) => few_to W _ x.b 50 (by decide) HXB.out.2 (HSE.out.kb hW))
        have HAD := Lib.hid (fun W v S A' R0 t (h : Pq w W w.heap.size d l B' r lb S A' s t R R0) (hv : Seen W v (x.b.take 50)) (hv2 : ∀ j, v.ownBlock = some j → ¬ S j) => add_to W w.heap.size d l S s [102] R q v (x.b.take 50) h.cl.dl (by have := HI1.out; omega) (by have := HI1.out; omega) (by decide) HXT.out.1 hv hv2 (by have := HXT.out.2; omega) HI1.out.2.2)
        have HRA := Lib.hid (fun W v A' (h : RLS W B' r lb A' s [102] R) (hv : Seen W v (x.b.take 50)) (hv2 : ∀ j, v.ownBlock = some j → j ≠ r) => radd_to W B' r lb A' s [102] R q v (x.b.take 50) h GS.out (by have := HI1.out; omega) (by have := HI1.out; omega) (by decide) HXT.out.1 hv hv2 (by have := HXT.out.2; omega) HI1.out.2.2)
        obtain ⟨az, haz⟩ : ∃ z, z = addS s [102] R q (x.b.take 50) := ⟨_, rfl⟩
        rw [← haz] at HIZ
        rw [← haz] at HAD HRA
        obtain ⟨cd, z, Q⟩ := az
        obtain ⟨tb, htb⟩ : ∃ z, z = x.b.take 50 := ⟨_, rfl⟩
        rw [← htb] at HAD HRA HFW
        clear haz hq htb HXT
        go_wp2_with fail
        try simp only [List.append]
        refine wp_region_noPanic ?_
        refine wp_region_held_drew (S := (fun W => W.cell? ⟨xb, 1, none⟩ = some (.int .i64 x.n) ∧ W.cell? ⟨xb, 3, none⟩ = some (.slice x.q x.b.length x.c))) (by kernel_rfl) ⟨X4d.out.c1, X4d.out.c3⟩ (fun hHeld => ?_)
        refine wpAnyH_take (i := 0) (v := ?_) (by simp only [List.getElem?_toArray, List.getElem?_cons_zero]; rfl) (by kernel_rfl) (by kernel_rfl) (by kernel_rfl) (fun _ _ _ h => h) (Or.inl ⟨by rfl, ?_⟩) (by assumption) ?_
        rotate_left
        · intro w hSw
          try dsimp only at hSw
          go_simp
          try with_reducible rfl
        try simp only [Act.put, List.setIfInBounds_toArray, List.set_cons_zero, List.set_cons_succ]
        refine wpAnyH_take (i := 1) (v := ?_) (by simp only [List.getElem?_toArray, List.getElem?_cons_succ, List.getElem?_cons_zero]; rfl) (by kernel_rfl) (by kernel_rfl) (by kernel_rfl) (fun _ _ _ h => h) (Or.inl ⟨by rfl, ?_⟩) (by assumption) ?_
        rotate_left
        · intro w hSw
          try dsimp only at hSw
          go_simp
          try with_reducible rfl
        try simp only [Act.put, List.setIfInBounds_toArray, List.set_cons_zero, List.set_cons_succ]
        refine wpAnyH_take (i := 2) (v := ?_) (by simp only [List.getElem?_toArray, List.getElem?_cons_succ, List.getElem?_cons_zero]; rfl) (by kernel_rfl) (by kernel_rfl) (by kernel_rfl) (fun _ _ _ h => h) (Or.inl ⟨by rfl, ?_⟩) (by assumption) ?_
        rotate_left
        · intro w hSw
          try dsimp only at hSw
          go_simp
          try with_reducible rfl
        try simp only [Act.put, List.setIfInBounds_toArray, List.set_cons_zero, List.set_cons_succ]
        refine wpAnyH_take (i := 5) (v := ?_) (by simp only [List.getElem?_toArray, List.getElem?_cons_succ, List.getElem?_cons_zero]; rfl) (by kernel_rfl) (by kernel_rfl) (by kernel_rfl) (fun _ _ _ h => h) (Or.inl ⟨by rfl, ?_⟩) (by assumption) ?_
        rotate_left
        · intro w hSw
          try dsimp only at hSw
          go_simp
          try with_reducible rfl
        try simp only [Act.put, List.setIfInBounds_toArray, List.set_cons_zero, List.set_cons_succ]
        refine wpAnyH_take (i := 6) (v := ?_) (by simp only [List.getElem?_toArray, List.getElem?_cons_succ, List.getElem?_cons_zero]; rfl) (by kernel_rfl) (by kernel_rfl) (by kernel_rfl) (fun _ _ _ h => h) (Or.inl ⟨by rfl, ?_⟩) (by assumption) ?_
        rotate_left
        · intro w hSw
          try dsimp only at hSw
          go_simp
          try with_reducible rfl
        try simp only [Act.put, List.setIfInBounds_toArray, List.set_cons_zero, List.set_cons_succ]
        refine wpAnyH_take (i := 10) (v := ?_) (by simp only [List.getElem?_toArray, List.getElem?_cons_succ, List.getElem?_cons_zero]; rfl) (by kernel_rfl) (by kernel_rfl) (by kernel_rfl) (fun _ _ _ h => h) (Or.inl ⟨by rfl, ?_⟩) (by assumption) ?_
        rotate_left
        · intro w hSw
          try dsimp only at hSw
          go_simp
          try with_reducible rfl
        try simp only [Act.put, List.setIfInBounds_toArray, List.set_cons_zero, List.set_cons_succ]
        refine wpAnyH_take (i := 11) (v := ?_) (by simp only [List.getElem?_toArray, List.getElem?_cons_succ, List.getElem?_cons_zero]; rfl) (by kernel_rfl) (by kernel_rfl) (by kernel_rfl) (fun _ _ _ h => h) (Or.inl ⟨by rfl, ?_⟩) (by assumption) ?_
        rotate_left
        · intro w hSw
          try dsimp only at hSw
          go_simp
          try with_reducible rfl
        try simp only [Act.put, List.setIfInBounds_toArray, List.set_cons_zero, List.set_cons_succ]
        refine wpAnyH_take (i := 12) (v := ?_) (by simp only [List.getElem?_toArray, List.getElem?_cons_succ, List.getElem?_cons_zero]; rfl) (by kernel_rfl) (by kernel_rfl) (by kernel_rfl) (fun _ _ _ h => h) (Or.inl ⟨by rfl, ?_⟩) (by assumption) ?_
        rotate_left
        · intro w hSw
          try dsimp only at hSw
          go_simp
          try with_reducible rfl
        try simp only [Act.put, List.setIfInBounds_toArray, List.set_cons_zero, List.set_cons_succ]
        refine wpAnyH_take (i := 15) (v := ?_) (by simp only [List.getElem?_toArray, List.getElem?_cons_succ, List.getElem?_cons_zero]; rfl) (by kernel_rfl) (by kernel_rfl) (by kernel_rfl) (fun _ _ _ h => h) (Or.inl ⟨by rfl, ?_⟩) (by assumption) ?_
        rotate_left
        · intro w hSw
          try dsimp only at hSw
          go_simp
          try with_reducible rfl
        try simp only [Act.put, List.setIfInBounds_toArray, List.set_cons_zero, List.set_cons_succ]
        refine wpAnyH_take (i := 16) (v := ?_) (by simp only [List.getElem?_toArray, List.getElem?_cons_succ, List.getElem?_cons_zero]; rfl) (by kernel_rfl) (by kernel_rfl) (by kernel_rfl) (fun _ _ _ h => h) (Or.inl ⟨by rfl, ?_⟩) (by assumption) ?_
        rotate_left
        · intro w hSw
          try dsimp only at hSw
          go_simp
          try with_reducible rfl
        try simp only [Act.put, List.setIfInBounds_toArray, List.set_cons_zero, List.set_cons_succ]
        refine wpAnyH_ready (rs := [3]) (by kernel_rfl) (by simp) ?_
        refine AllReadyH.cons (by simp only [List.getElem?_toArray, List.getElem?_cons_succ, List.getElem?_cons_zero]; rfl) (fun K hK => ?_) AllReadyH.nil
        go_simp
        refine (pick_any _ x.n 258 (by decide) (by decide)).mono ?_
        rintro e w' ⟨rfl, rfl⟩
        go_wp2_with fail
        refine hK.out _ _ ⟨X4d.out.c1, X4d.out.c3⟩ (fun hHeld => ?_)
        clear hK K
        try simp only [Act.put, List.setIfInBounds_toArray, List.set_cons_zero, List.set_cons_succ]
        refine wpAnyH_take (i := 4) (v := (.int .i64 q)) (by simp only [List.getElem?_toArray, List.getElem?_cons_succ, List.getElem?_cons_zero]; rfl) (by kernel_rfl) (by kernel_rfl) (by kernel_rfl) (fun _ _ _ h => h) (Or.inl ⟨by rfl, ?_⟩) (by assumption) ?_
        · intro w hSw
          try dsimp only at hSw
          go_simp
        try simp only [Act.put, List.setIfInBounds_toArray, List.set_cons_zero, List.set_cons_succ]
        refine wpAnyH_ready (rs := [7]) (by kernel_rfl) (by simp) ?_
        refine AllReadyH.cons (by simp only [List.getElem?_toArray, List.getElem?_cons_succ, List.getElem?_cons_zero]; rfl) (fun K hK => ?_) AllReadyH.nil
        go_simp
        refine (HFW.out _ P4d.out.cl.bel).mono ?_
        rintro e w5 ⟨g5, c5, rfl, o5, b5⟩
        have P5 := Lib.hid (P4d.out.kb b5)
        have X5 := Lib.hid (X4d.out.kb b5)
        have O5 := Lib.hid (Seen.own o5)
        have N5 : Hid (∀ j, Value.ownBlock (.slice (some ⟨g5, 0, none⟩) tb.length c5) = some j → ¬ S j) := Lib.hid (fun j hj hs => by have h1 := (o5.lt j hj).1; have h2 := P4d.out.cl.dl.lt j hs; omega)
        clear o5 b5
        go_wp2_with fail
        refine hK.out _ _ ⟨X5.out.c1, X5.out.c3⟩ (fun hHeld => ?_)
        clear hK K
        try simp only [Act.put, List.setIfInBounds_toArray, List.set_cons_zero, List.set_cons_succ]
        refine wpAnyH_ready (rs := [8]) (by kernel_rfl) (by simp) ?_
        refine AllReadyH.cons (by simp only [List.getElem?_toArray, List.getElem?_cons_succ, List.getElem?_cons_zero]; rfl) (fun K hK => ?_) AllReadyH.nil
        go_simp
        refine (HAD.out w5 _ S A R s P5.out O5.out N5.out).mono ?_
        rintro e w6 ⟨rfl, hp6⟩
        obtain ⟨S6, p6, s6, t6⟩ := P5.out.stepD hp6
        have P6 := Lib.hid p6
        have X6 := Lib.hid (X5.out.stepD s6 t6)
        clear hp6 p6 s6 t6
        go_wp2_with fail
        refine hK.out _ _ ⟨X6.out.c1, X6.out.c3⟩ (fun hHeld => ?_)
        clear hK K
        try simp only [Act.put, List.setIfInBounds_toArray, List.set_cons_zero, List.set_cons_succ]
        refine wpAnyH_ready (rs := [9]) (by kernel_rfl) (by simp) ?_
        refine AllReadyH.cons (by simp only [List.getElem?_toArray, List.getElem?_cons_succ, List.getElem?_cons_zero]; rfl) (fun K hK => ?_) AllReadyH.nil
        go_simp
        refine (nhand w6 cd (HG.out.kb P6.out.cl.bel)).mono ?_
        rintro e w9 ⟨rfl, b9⟩
        have P9 := Lib.hid (P6.out.kb b9)
        have X9 := Lib.hid (X6.out.kb b9)
        clear b9
        go_wp2_with fail
        refine hK.out _ _ ⟨X9.out.c1, X9.out.c3⟩ (fun hHeld => ?_)
        clear hK K
        try simp only [Act.put, List.setIfInBounds_toArray, List.set_cons_zero, List.set_cons_succ]
        refine wpAnyH_ready (rs := [13]) (by kernel_rfl) (by simp) ?_
        refine AllReadyH.cons (by simp only [List.getElem?_toArray, List.getElem?_cons_succ, List.getElem?_cons_zero]; rfl) (fun K hK => ?_) AllReadyH.nil
        go_simp
        refine (pick_any _ x.n 258 (by decide) (by decide)).mono ?_
        rintro e w' ⟨rfl, rfl⟩
        go_wp2_with fail
        refine hK.out _ _ ⟨X9.out.c1, X9.out.c3⟩ (fun hHeld => ?_)
        clear hK K
        try simp only [Act.put, List.setIfInBounds_toArray, List.set_cons_zero, List.set_cons_succ]
        refine wpAnyH_take (i := 14) (v := (.int .i64 q)) (by simp only [List.getElem?_toArray, List.getElem?_cons_succ, List.getElem?_cons_zero]; rfl) (by kernel_rfl) (by kernel_rfl) (by kernel_rfl) (fun _ _ _ h => h) (Or.inl ⟨by rfl, ?_⟩) (by assumption) ?_
        · intro w hSw
          try dsimp only at hSw
          go_simp
        try simp only [Act.put, List.setIfInBounds_toArray, List.set_cons_zero, List.set_cons_succ]
        refine wpAnyH_ready (rs := [17]) (by kernel_rfl) (by simp) ?_
        refine AllReadyH.cons (by simp only [List.getElem?_toArray, List.getElem?_cons_succ, List.getElem?_cons_zero]; rfl) (fun K hK => ?_) AllReadyH.nil
        go_simp
        refine (HFW.out _ P9.out.cl.bel).mono ?_
        rintro e w10 ⟨g10, c10, rfl, o10, b10⟩
        have P10 := Lib.hid (P9.out.kb b10)
        have X10 := Lib.hid (X9.out.kb b10)
        have O10 := Lib.hid (Seen.own o10)
        have N10 : Hid (∀ j, Value.ownBlock (.slice (some ⟨g10, 0, none⟩) tb.length c10) = some j → j ≠ r) := Lib.hid (fun j hj hs => by have h1 := (o10.lt j hj).1; have h2 := P9.out.rl.lts.2.1; omega)
        clear o10 b10
        go_wp2_with fail
        refine hK.out _ _ ⟨X10.out.c1, X10.out.c3⟩ (fun hHeld => ?_)
        clear hK K
        try simp only [Act.put, List.setIfInBounds_toArray, List.set_cons_zero, List.set_cons_succ]
        refine wpAnyH_ready (rs := [18]) (by kernel_rfl) (by simp) ?_
        refine AllReadyH.cons (by simp only [List.getElem?_toArray, List.getElem?_cons_succ, List.getElem?_cons_zero]; rfl) (fun K hK => ?_) AllReadyH.nil
        go_simp
        refine (HRA.out w10 _ A P10.out.rl O10.out N10.out).mono ?_
        intro e w7 hp7
        unfold RAdd at hp7
        obtain ⟨rfl, hp7⟩ := hp7
        obtain ⟨A7, p7⟩ := P10.out.stepR hp7
        have P7 := Lib.hid p7
        obtain ⟨_, _, o7, _⟩ := hp7
        have X7 := Lib.hid (show w7.heap[xb]? = w10.heap[xb]? from o7.block _ X10.out.lt (fun e => e.elim NXB.out.1 NXB.out.2))
        have Y7 : Hid (w7.cell? ⟨xb, 1, none⟩ = some (.int .i64 x.n) ∧ w7.cell? ⟨xb, 3, none⟩ = some (.slice x.q x.b.length x.c)) := Lib.hid ⟨by rw [World.cell?_of_block (w := w10) X7.out]; exact X10.out.c1, by rw [World.cell?_of_block (w := w10) X7.out]; exact X10.out.c3⟩
        clear p7 o7 X7
        go_wp2_with fail
        refine hK.out _ _ Y7.out (fun hHeld => ?_)
        clear hK K
        try simp only [Act.put, List.setIfInBounds_toArray, List.set_cons_zero, List.set_cons_succ]
        refine wpAnyH_take (i := 19) (v := (.bool false)) (by simp only [List.getElem?_toArray, List.getElem?_cons_succ, List.getElem?_cons_zero]; rfl) (by kernel_rfl) (by kernel_rfl) (by kernel_rfl) (fun _ _ _ h => h) (Or.inl ⟨by rfl, ?_⟩) (by assumption) ?_
        · intro w hSw
          try dsimp only at hSw
          go_simp
        try simp only [Act.put, List.setIfInBounds_toArray, List.set_cons_zero, List.set_cons_succ]
        refine wpAnyH_done (by kernel_rfl) ?_ _
        refine NoPanic.normal ?_
        have HI7 : Hid (Iv (k + 1) z Q) := Lib.hid HIZ.out
        go_wp2_with fail
        refine (lsame7_to w7 _ d l B' r lb _ _ z Q P7.out.cl.dl P7.out.rl (by have := HI7.out.works; omega)).mono ?_
        rintro e w8 ⟨rfl, b8⟩
        have P8 := Lib.hid (P7.out.kb b8)
        clear b8 P7
        go_wp2_with fail
        exact ⟨⟨k + 1, _, _, _, _, z, Q, by omega, by omega, rfl, rfl, by simp, P8, HI7⟩, by simp [intOf]; omega⟩
end Go.Proofs.YtageblggakfbdaaGreatDoor
