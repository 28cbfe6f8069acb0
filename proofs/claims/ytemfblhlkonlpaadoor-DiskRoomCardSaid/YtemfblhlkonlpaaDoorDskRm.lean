/- DiskRoom returns true and makes new memory alone. Condition: errors.errorType holds what its text lays. -/
import Derived.Test.YtemfblhlkonlpaaDoorDskSt3
import Derived.Test.YtemfblhlkonlpaaDoorDskB2
import Derived.Test.YtemfblhlkonlpaaDoorGenPick
import Derived.Deep.QuietTactic
import Derived.Deep.RegionHeld3
namespace Go.Proofs.YtemfblhlkonlpaaDoor
open Go.RowKit
open Go.Maps

/-- A disk that lives and has room for R bytes. -/
structure Live (s : St) (R : Int) (m : Nat) : Prop where
  dead : s.dead = false
  fuse : s.fuse = -1
  room : s.room = R
  works : s.works ≤ m
  used : (s.used : Int) ≤ R
  nm : ∀ p ∈ s.files, p.1.length ≤ 20
theorem ds_asc {w : World} {B b : Nat} {S : Nat → Prop} {s : St} (h : DS w B b S s) : AAsc s.files := by
  obtain ⟨c, L, P, hx⟩ := h
  exact hx.hist.last.asc
theorem live_new (R : Int) (h : 0 ≤ R) (h2 : R ≤ 200) : Live (St.new R) R 0 := by
  have e : max 0 (min R 16777216) = R := by omega
  refine ⟨rfl, rfl, ?_, Nat.le_refl _, ?_, fun p hp => by cases hp⟩
  · unfold St.new; exact e
  · show ((0 : Nat) : Int) ≤ R; omega
theorem live_work {s : St} {R : Int} {m : Nat} (h : Live s R m) (k : Wk) (hu : (totF (turn s.files k) : Int) ≤ R) (hn : ∀ p ∈ turn s.files k, p.1.length ≤ 20) : (s.work k).1 = 0 ∧ Live (s.work k).2 R (m + 1) ∧ (s.work k).2.used = totF (turn s.files k) := by
  have e : s.work k = (0, { s with pend := s.pend ++ [k], fuse := if 0 < s.fuse then s.fuse - 1 else s.fuse, works := s.works + 1 }) := by unfold St.work; rw [if_neg (by rw [h.fuse]; decide)]
  have hf : ({ s with pend := s.pend ++ [k], fuse := if 0 < s.fuse then s.fuse - 1 else s.fuse, works := s.works + 1 } : St).files = turn s.files k := run_snoc _ _ _
  rw [e]
  refine ⟨rfl, ⟨h.dead, ?_, h.room, Nat.succ_le_succ h.works, ?_, by rw [hf]; exact hn⟩, ?_⟩
  · show (if 0 < s.fuse then s.fuse - 1 else s.fuse) = -1
    rw [h.fuse]; rfl
  · unfold St.used; rw [hf]; exact hu
  · unfold St.used; rw [hf]
theorem live_app_no {s : St} {R : Int} {m : Nat} (h : Live s R m) {n : Key} (hn : okName n = true) {l : List Int} (hl : R < (s.used : Int) + l.length) : s.append n l = (6, s) := by
  unfold St.append
  rw [if_neg (by simp [hn]), if_neg (by simp [h.dead]), if_pos (by rw [h.room]; omega)]
theorem live_app_yes {s : St} {R : Int} {m : Nat} (h : Live s R m) (ha : AAsc s.files) {n : Key} (hn : okName n = true) {l : List Int} (hl : ¬ R < (s.used : Int) + l.length) : (s.append n l).1 = 0 ∧ Live (s.append n l).2 R (m + 1) ∧ (s.append n l).2.used = s.used + l.length := by
  have e : s.append n l = s.work ⟨0, n, [], l, 0⟩ := by
    unfold St.append
    rw [if_neg (by simp [hn]), if_neg (by simp [h.dead]), if_neg (by rw [h.room]; omega)]
  have ht := turn_app_tot s.files ha n l
  have := live_work h ⟨0, n, [], l, 0⟩ (by rw [ht]; unfold St.used at hl; omega) (fun p hp => by
    rcases (ains_mem _ _ _).1 hp with rfl | hp
    · exact ok20 hn
    · exact h.nm p ((adel_mem _ _ _).1 hp).1)
  rw [ht] at this
  rw [e]
  exact this
theorem live_mono {s : St} {R : Int} {m k : Nat} (h : Live s R m) (hk : m ≤ k) : Live s R k := ⟨h.dead, h.fuse, h.room, Nat.le_trans h.works hk, h.used, h.nm⟩
theorem live_rem {s : St} {R : Int} {m : Nat} (h : Live s R m) (ha : AAsc s.files) (n : Key) : Live (s.remove n).2 R (m + 1) := by
  unfold St.remove
  split
  · exact live_mono h (Nat.le_succ _)
  split
  · exact live_mono h (Nat.le_succ _)
  split
  · exact live_mono h (Nat.le_succ _)
  refine (live_work h ⟨3, n, [], [], 0⟩ ?_ (fun p hp => h.nm p ((adel_mem n s.files p).1 hp).1)).2.1
  have h1 : totF (adel n s.files) ≤ totF s.files := by
    have := asum_del List.length n ha
    unfold totF; omega
  have h2 := h.used
  have h3 : totF (turn s.files ⟨3, n, [], [], 0⟩) = totF (adel n s.files) := rfl
  unfold St.used at h2
  rw [h3]; omega
theorem index_four (cs : Array Value) (hc : cs.size = 4) (k : Int) (w : World) (h0 : 0 ≤ k) (h1 : k < 4) : (Instr.index 80 (.agg cs) (.int .i64 k)).run Tryd.prog w = .ok (cs.getD k.toNat undef) w := by
  have hk : k.toNat < cs.size := by omega
  simp [Instr.index, asIntOf, run_underlying Tryd.underlying80, h0, h1, go_sem, hk]
theorem mod4r (x : Int) : x % 4 = 0 ∨ x % 4 = 1 ∨ x % 4 = 2 ∨ x % 4 = 3 := by omega
structure RmL (w wr : World) (d : Nat) (S : Nat → Prop) (s : St) (R : Int) (k : Nat) : Prop where
  cl : Cl w wr w.heap.size d S s
  live : Live s R (2 * k)
set_option maxRecDepth 20000 in
set_option maxHeartbeats 4000000 in
theorem diskRoom_walk (w : World) (hg : Glob w) (room : Int) (p0 : Option Addr) (c0 : Nat) (E : List Sp) (hE : SpSeen w p0 E) (hEb : ∀ (j : Nat) (x : Sp), E[j]? = some x → x.b.length ≤ 140737488351232) :
    Calls Tryd.prog 8 #[.int .i64 room, .slice p0 E.length c0] w fun e w' => e = .returned (.bool true) ∧ Below w.heap.size w w' := by
  have HG := Lib.hid hg
  have HE := Lib.hid hE
  have HEB := Lib.hid hEb
  obtain ⟨n, hn⟩ : ∃ n, n = E.length := ⟨_, rfl⟩
  have HN := Lib.hid hn
  rw [← hn]
  obtain ⟨R, hR⟩ : ∃ R, R = room % 200 := ⟨_, rfl⟩
  have hR0 : 0 ≤ R := by omega
  have hR1 : R < 200 := by omega
  have HP0 := Lib.hid (pick_to w room 200 R (by decide) (by decide) hR.symm)
  clear hg hE hEb hn hR
  go_enter Tryd.func8, Tryd.ntmps8
  go_wp2_with fail
  refine HP0.out.mono ?_
  rintro e w' ⟨rfl, rfl⟩
  clear HP0
  go_wp2_with fail
  refine (new_to w R).mono ?_
  rintro e w1 ⟨d, S1, rfl, h1, b1, g1⟩
  have C1 : Hid (Cl w w1 w.heap.size d S1 (St.new R)) := Lib.hid ⟨h1, b1, g1⟩
  clear h1 b1 g1
  go_wp2_with fail
  refine (known_to w1).mono ?_
  rintro e w2 ⟨rfl, b2⟩
  have HL0 : Hid (RmL w w2 d S1 (St.new R) R 0) := Lib.hid ⟨C1.out.kb b2, live_new R hR0 (by omega)⟩
  clear b2 C1
  go_wp2_with fail
  go_loopw [6] (fun i wr => ∃ (k : Nat) (S : Nat → Prop) (s : St), k ≤ n ∧ k ≤ 40 ∧ i = .int .i64 k ∧ Hid (RmL w wr d S s R k)) (fun i _ => n - (intOf i).toNat)
  case atStart => exact ⟨0, S1, _, Nat.zero_le _, by omega, rfl, HL0⟩
  case round =>
    obtain ⟨k, S, s, hk, hk40, rfl, HR⟩ := hrel
    clear HL0
    by_cases hlt : k < n ∧ k < 40
    · obtain ⟨hl1, hl2⟩ := hlt
      obtain ⟨z, hz⟩ : ∃ z, E[k]? = some z := ⟨E[k]'(by rw [← HN.out]; exact hl1), List.getElem?_eq_getElem _⟩
      obtain ⟨eb, eo, rfl, hc0, hc1, hc5, hse⟩ := HE.out k z hz
      have hlw := World.block_lt_of_cell? w _ hc0
      have HZB := Lib.hid (HEB.out k z hz)
      have HCW : Hid (∀ W : World, Below w.heap.size w W → W.cell? ⟨eb, eo + k * 6, none⟩ = some (.int .i64 z.what) ∧ W.cell? ⟨eb, eo + k * 6 + 1, none⟩ = some (.int .i64 z.name) ∧ W.cell? ⟨eb, eo + k * 6 + 5, none⟩ = some (.slice z.q z.b.length z.c)) := Lib.hid (fun W hb => ⟨dcell_kb hc0 hb, dcell_kb hc1 hb, dcell_kb hc5 hb⟩)
      have HSE : Hid (∀ W : World, Below w.heap.size w W → Seen W (.slice z.q z.b.length z.c) z.b) := Lib.hid (fun W hb => hse.kb hb)
      have HOU : Hid (∀ j, Value.ownBlock (.slice z.q z.b.length z.c) = some j → z.b = [] ∨ j < w.heap.size) := Lib.hid (fun j hj => by
        rcases hse with ⟨_, h⟩ | ⟨a, cc, he, hc, hu⟩
        · exact .inl h
        · cases hb : z.b with
          | nil => exact .inl rfl
          | cons y r =>
            right
            have := World.block_lt_of_cell? w _ (hu 0 (.int .u8 y) (by rw [hb]; rfl))
            rw [Addr.add_block] at this
            cases hq : z.q with
            | none => rw [hq] at he; cases he
            | some q =>
              rw [hq] at he hj
              cases he
              simp [Value.ownBlock] at hj
              omega)
      have hk' : (k : Int) < n := by omega
      have hk'' : (k : Int) < 40 := by omega
      have HKN : Hid (k < n ∧ k < 40) := Lib.hid ⟨hl1, hl2⟩
      have h4 := mod4r z.name
      have HU1 := Lib.hid (used_ds2 wr _ d S s HR.out.cl.ds)
      rw [HR.out.live.dead] at HU1
      simp only [Bool.false_eq_true, if_false] at HU1
      obtain ⟨q0, q1, q5⟩ := HCW.out wr HR.out.cl.bel
      clear hz hc0 hc1 hc5 hse hlw
      go_wp2_with fail
      refine HU1.out.mono ?_
      rintro e w' ⟨rfl, rfl⟩
      clear HU1
      have HUS : Hid (z.b ≠ [] → ∀ j, Value.ownBlock (.slice z.q z.b.length z.c) = some j → ¬ S j) := Lib.hid (fun hb j hj hs => by
        rcases HOU.out j hj with e | e
        · exact hb e
        · have := HR.out.cl.ge j hs; omega)
      rcases h4 with hm | hm | hm | hm
      · have HP := Lib.hid (pick_to wr z.name 4 0 (by decide) (by decide) hm)
        clear hm
        go_wp2_with fail
        refine HP.out.mono ?_
        rintro e w' ⟨rfl, rfl⟩
        clear HP
        have hix : (Instr.index 80 (.agg #[.string ⟨#[97]⟩, .string ⟨#[98]⟩, .string ⟨#[108, 111, 103]⟩, .string ⟨#[114, 111, 111, 116]⟩]) (.int .i64 0)).run Tryd.prog wr = .ok (.string ⟨#[97]⟩) wr := index_four _ rfl 0 wr (by decide) (by decide)
        go_wp2_with fail
        refine (append_nb wr _ d S s [97] (.slice z.q z.b.length z.c) z.b HR.out.cl.ds (by have := HR.out.live.works; omega) (by rw [HR.out.live.fuse]; decide) (by decide) (HSE.out wr HR.out.cl.bel) HUS.out).mono ?_
        rintro e w8 ⟨rfl, S8, h8, o8, s8⟩
        clear q0 q1 q5 hix
        by_cases hfit : R < (s.used : Int) + z.b.length
        · have ha := live_app_no HR.out.live (n := [97]) (by decide) hfit
          rw [ha] at h8
          rw [ha, show enoOf 6 = eno 6 from if_neg (by decide)]
          have C8 : Hid (Cl w w8 w.heap.size d S8 s) := Lib.hid (HR.out.cl.step h8 o8 s8)
          have HLV : Hid (Live s R (2 * k + 1)) := Lib.hid (live_mono HR.out.live (Nat.le_succ _))
          clear ha h8 o8 s8
          obtain ⟨q0, q1, q5⟩ := HCW.out w8 C8.out.bel
          have hwr : IntKind.i64.wrap ((s.used : Int) + (z.b.length : Int)) = (s.used : Int) + (z.b.length : Int) := IntWalk.i64_in _ (by have h1 := HZB.out; have h2 := HLV.out.used; omega)
          have hf2 : ¬ (s.used : Int) + (z.b.length : Int) ≤ R := by omega
          have hus2 : ¬ R < (s.used : Int) := by have := HLV.out.used; omega
          have HKD := Lib.hid (khand_eno w8.drew 6 (by decide) (HG.out.kb (C8.out.bel.drew)))
          clear q0 q1
          go_wp2_with fail
          try simp only [List.append]
          refine wp_region_noPanic ?_
          refine wp_region_held_drew (S := (fun W => W.cell? ⟨eb, eo + k * 6 + 5, none⟩ = some (.slice z.q z.b.length z.c))) (by kernel_rfl) q5 (fun hHeld => ?_)
          refine wpAnyH_take (i := 0) (v := ?_) (by simp only [List.getElem?_toArray, List.getElem?_cons_zero]; rfl) (by kernel_rfl) (by kernel_rfl) (by kernel_rfl) (fun _ _ _ h => h) (Or.inl ⟨by rfl, ?_⟩) (by assumption) ?_
          rotate_left
          · intro w hSw
            try dsimp only at hSw
            go_simp
            try with_reducible rfl
          try simp only [Act.put, List.setIfInBounds_toArray, List.set_cons_zero, List.set_cons_succ]
          refine wpAnyH_take (i := 1) (v := (.bool false)) (by simp only [List.getElem?_toArray, List.getElem?_cons_succ, List.getElem?_cons_zero]; rfl) (by kernel_rfl) (by kernel_rfl) (by kernel_rfl) (fun _ _ _ h => h) (Or.inl ⟨by rfl, ?_⟩) (by assumption) ?_
          · intro w hSw
            try dsimp only at hSw
            go_simp
          try simp only [Act.put, List.setIfInBounds_toArray, List.set_cons_zero, List.set_cons_succ]
          refine wpAnyH_take (i := 2) (v := ?_) (by simp only [List.getElem?_toArray, List.getElem?_cons_succ, List.getElem?_cons_zero]; rfl) (by kernel_rfl) (by kernel_rfl) (by kernel_rfl) (fun _ _ _ h => h) (Or.inl ⟨by rfl, ?_⟩) (by assumption) ?_
          rotate_left
          · intro w hSw
            try dsimp only at hSw
            go_simp
            try with_reducible rfl
          try simp only [Act.put, List.setIfInBounds_toArray, List.set_cons_zero, List.set_cons_succ]
          refine wpAnyH_take (i := 3) (v := ?_) (by simp only [List.getElem?_toArray, List.getElem?_cons_succ, List.getElem?_cons_zero]; rfl) (by kernel_rfl) (by kernel_rfl) (by kernel_rfl) (fun _ _ _ h => h) (Or.inl ⟨by rfl, ?_⟩) (by assumption) ?_
          rotate_left
          · intro w hSw
            try dsimp only at hSw
            go_simp
            try with_reducible rfl
          try simp only [Act.put, List.setIfInBounds_toArray, List.set_cons_zero, List.set_cons_succ]
          refine wpAnyH_take (i := 4) (v := ?_) (by simp only [List.getElem?_toArray, List.getElem?_cons_succ, List.getElem?_cons_zero]; rfl) (by kernel_rfl) (by kernel_rfl) (by kernel_rfl) (fun _ _ _ h => h) (Or.inl ⟨by rfl, ?_⟩) (by assumption) ?_
          rotate_left
          · intro w hSw
            try dsimp only at hSw
            go_simp
            try with_reducible rfl
          try simp only [Act.put, List.setIfInBounds_toArray, List.set_cons_zero, List.set_cons_succ]
          refine wpAnyH_take (i := 5) (v := ?_) (by simp only [List.getElem?_toArray, List.getElem?_cons_succ, List.getElem?_cons_zero]; rfl) (by kernel_rfl) (by kernel_rfl) (by kernel_rfl) (fun _ _ _ h => h) (Or.inl ⟨by rfl, ?_⟩) (by assumption) ?_
          rotate_left
          · intro w hSw
            try dsimp only at hSw
            go_simp
            try with_reducible rfl
          try simp only [Act.put, List.setIfInBounds_toArray, List.set_cons_zero, List.set_cons_succ]
          refine wpAnyH_take (i := 6) (v := ?_) (by simp only [List.getElem?_toArray, List.getElem?_cons_succ, List.getElem?_cons_zero]; rfl) (by kernel_rfl) (by kernel_rfl) (by kernel_rfl) (fun _ _ _ h => h) (Or.inl ⟨by rfl, ?_⟩) (by assumption) ?_
          rotate_left
          · intro w hSw
            try dsimp only at hSw
            go_simp
            try with_reducible rfl
          try simp only [Act.put, List.setIfInBounds_toArray, List.set_cons_zero, List.set_cons_succ]
          refine wpAnyH_take (i := 7) (v := ?_) (by simp only [List.getElem?_toArray, List.getElem?_cons_succ, List.getElem?_cons_zero]; rfl) (by kernel_rfl) (by kernel_rfl) (by kernel_rfl) (fun _ _ _ h => h) (Or.inl ⟨by rfl, ?_⟩) (by assumption) ?_
          rotate_left
          · intro w hSw
            try dsimp only at hSw
            go_simp
            try with_reducible rfl
          try simp only [Act.put, List.setIfInBounds_toArray, List.set_cons_zero, List.set_cons_succ]
          refine wpAnyH_take (i := 8) (v := ?_) (by simp only [List.getElem?_toArray, List.getElem?_cons_succ, List.getElem?_cons_zero]; rfl) (by kernel_rfl) (by kernel_rfl) (by kernel_rfl) (fun _ _ _ h => h) (Or.inl ⟨by rfl, ?_⟩) (by assumption) ?_
          rotate_left
          · intro w hSw
            try dsimp only at hSw
            go_simp
            try with_reducible rfl
          try simp only [Act.put, List.setIfInBounds_toArray, List.set_cons_zero, List.set_cons_succ]
          refine wpAnyH_take (i := 9) (v := ?_) (by simp only [List.getElem?_toArray, List.getElem?_cons_succ, List.getElem?_cons_zero]; rfl) (by kernel_rfl) (by kernel_rfl) (by kernel_rfl) (fun _ _ _ h => h) (Or.inl ⟨by rfl, ?_⟩) (by assumption) ?_
          rotate_left
          · intro w hSw
            try dsimp only at hSw
            go_simp
            try with_reducible rfl
          try simp only [Act.put, List.setIfInBounds_toArray, List.set_cons_zero, List.set_cons_succ]
          refine wpAnyH_take (i := 10) (v := ?_) (by simp only [List.getElem?_toArray, List.getElem?_cons_succ, List.getElem?_cons_zero]; rfl) (by kernel_rfl) (by kernel_rfl) (by kernel_rfl) (fun _ _ _ h => h) (Or.inl ⟨by rfl, ?_⟩) (by assumption) ?_
          rotate_left
          · intro w hSw
            try dsimp only at hSw
            go_simp
            try with_reducible rfl
          try simp only [Act.put, List.setIfInBounds_toArray, List.set_cons_zero, List.set_cons_succ]
          refine wpAnyH_take (i := 11) (v := (.bool false)) (by simp only [List.getElem?_toArray, List.getElem?_cons_succ, List.getElem?_cons_zero]; rfl) (by kernel_rfl) (by kernel_rfl) (by kernel_rfl) (fun _ _ _ h => h) (Or.inl ⟨by rfl, ?_⟩) (by assumption) ?_
          · intro w hSw
            try dsimp only at hSw
            go_simp
          try simp only [Act.put, List.setIfInBounds_toArray, List.set_cons_zero, List.set_cons_succ]
          refine wpAnyH_take (i := 12) (v := (.bool false)) (by simp only [List.getElem?_toArray, List.getElem?_cons_succ, List.getElem?_cons_zero]; rfl) (by kernel_rfl) (by kernel_rfl) (by kernel_rfl) (fun _ _ _ h => h) (Or.inl ⟨by rfl, ?_⟩) (by assumption) ?_
          · intro w hSw
            try dsimp only at hSw
            go_simp
          try simp only [Act.put, List.setIfInBounds_toArray, List.set_cons_zero, List.set_cons_succ]
          refine wpAnyH_take (i := 13) (v := ?_) (by simp only [List.getElem?_toArray, List.getElem?_cons_succ, List.getElem?_cons_zero]; rfl) (by kernel_rfl) (by kernel_rfl) (by kernel_rfl) (fun _ _ _ h => h) (Or.inl ⟨by rfl, ?_⟩) (by assumption) ?_
          rotate_left
          · intro w hSw
            try dsimp only at hSw
            go_simp
            try with_reducible rfl
          try simp only [Act.put, List.setIfInBounds_toArray, List.set_cons_zero, List.set_cons_succ]
          refine wpAnyH_take (i := 14) (v := ?_) (by simp only [List.getElem?_toArray, List.getElem?_cons_succ, List.getElem?_cons_zero]; rfl) (by kernel_rfl) (by kernel_rfl) (by kernel_rfl) (fun _ _ _ h => h) (Or.inl ⟨by rfl, ?_⟩) (by assumption) ?_
          rotate_left
          · intro w hSw
            try dsimp only at hSw
            go_simp
            try with_reducible rfl
          try simp only [Act.put, List.setIfInBounds_toArray, List.set_cons_zero, List.set_cons_succ]
          refine wpAnyH_take (i := 15) (v := (.bool true)) (by simp only [List.getElem?_toArray, List.getElem?_cons_succ, List.getElem?_cons_zero]; rfl) (by kernel_rfl) (by kernel_rfl) (by kernel_rfl) (fun _ _ _ h => h) (Or.inl ⟨by rfl, ?_⟩) (by assumption) ?_
          · intro w hSw
            try dsimp only at hSw
            go_simp
          try simp only [Act.put, List.setIfInBounds_toArray, List.set_cons_zero, List.set_cons_succ]
          refine wpAnyH_take (i := 16) (v := ?_) (by simp only [List.getElem?_toArray, List.getElem?_cons_succ, List.getElem?_cons_zero]; rfl) (by kernel_rfl) (by kernel_rfl) (by kernel_rfl) (fun _ _ _ h => h) (Or.inl ⟨by rfl, ?_⟩) (by assumption) ?_
          rotate_left
          · intro w hSw
            try dsimp only at hSw
            go_simp
            try with_reducible rfl
          try simp only [Act.put, List.setIfInBounds_toArray, List.set_cons_zero, List.set_cons_succ]
          refine wpAnyH_take (i := 17) (v := ?_) (by simp only [List.getElem?_toArray, List.getElem?_cons_succ, List.getElem?_cons_zero]; rfl) (by kernel_rfl) (by kernel_rfl) (by kernel_rfl) (fun _ _ _ h => h) (Or.inl ⟨by rfl, ?_⟩) (by assumption) ?_
          rotate_left
          · intro w hSw
            try dsimp only at hSw
            go_simp
            try with_reducible rfl
          try simp only [Act.put, List.setIfInBounds_toArray, List.set_cons_zero, List.set_cons_succ]
          refine wpAnyH_ready (rs := [18]) (by kernel_rfl) (by simp) ?_
          refine AllReadyH.cons (by simp only [List.getElem?_toArray, List.getElem?_cons_succ, List.getElem?_cons_zero]; rfl) (fun K hK => ?_) AllReadyH.nil
          go_simp
          refine HKD.out.mono ?_
          rintro e w9 ⟨rfl, b9⟩
          have C9 := Lib.hid (C8.out.kb (W' := w9) ⟨b9.os, b9.tape, b9.output, b9.size, b9.block⟩)
          obtain ⟨_, _, q9⟩ := HCW.out w9 C9.out.bel
          have HU9 := Lib.hid (used_ds2 w9 _ d S8 s C9.out.ds)
          rw [HLV.out.dead] at HU9
          simp only [Bool.false_eq_true, if_false] at HU9
          clear b9
          go_wp2_with fail
          refine hK.out _ _ q9 (fun hHeld => ?_)
          clear hK K
          try simp only [Act.put, List.setIfInBounds_toArray, List.set_cons_zero, List.set_cons_succ]
          refine wpAnyH_take (i := 19) (v := (.bool false)) (by simp only [List.getElem?_toArray, List.getElem?_cons_succ, List.getElem?_cons_zero]; rfl) (by kernel_rfl) (by kernel_rfl) (by kernel_rfl) (fun _ _ _ h => h) (Or.inl ⟨by rfl, ?_⟩) (by assumption) ?_
          · intro w hSw
            try dsimp only at hSw
            go_simp
          try simp only [Act.put, List.setIfInBounds_toArray, List.set_cons_zero, List.set_cons_succ]
          refine wpAnyH_take (i := 20) (v := ?_) (by simp only [List.getElem?_toArray, List.getElem?_cons_succ, List.getElem?_cons_zero]; rfl) (by kernel_rfl) (by kernel_rfl) (by kernel_rfl) (fun _ _ _ h => h) (Or.inl ⟨by rfl, ?_⟩) (by assumption) ?_
          rotate_left
          · intro w hSw
            try dsimp only at hSw
            go_simp
            try with_reducible rfl
          try simp only [Act.put, List.setIfInBounds_toArray, List.set_cons_zero, List.set_cons_succ]
          refine wpAnyH_take (i := 21) (v := ?_) (by simp only [List.getElem?_toArray, List.getElem?_cons_succ, List.getElem?_cons_zero]; rfl) (by kernel_rfl) (by kernel_rfl) (by kernel_rfl) (fun _ _ _ h => h) (Or.inl ⟨by rfl, ?_⟩) (by assumption) ?_
          rotate_left
          · intro w hSw
            try dsimp only at hSw
            go_simp
            try with_reducible rfl
          try simp only [Act.put, List.setIfInBounds_toArray, List.set_cons_zero, List.set_cons_succ]
          refine wpAnyH_take (i := 23) (v := ?_) (by simp only [List.getElem?_toArray, List.getElem?_cons_succ, List.getElem?_cons_zero]; rfl) (by kernel_rfl) (by kernel_rfl) (by kernel_rfl) (fun _ _ _ h => h) (Or.inl ⟨by rfl, ?_⟩) (by assumption) ?_
          rotate_left
          · intro w hSw
            try dsimp only at hSw
            go_simp
            try with_reducible rfl
          try simp only [Act.put, List.setIfInBounds_toArray, List.set_cons_zero, List.set_cons_succ]
          refine wpAnyH_ready (rs := [22]) (by kernel_rfl) (by simp) ?_
          refine AllReadyH.cons (by simp only [List.getElem?_toArray, List.getElem?_cons_succ, List.getElem?_cons_zero]; rfl) (fun K hK => ?_) AllReadyH.nil
          go_simp
          refine HU9.out.mono ?_
          rintro e w' ⟨rfl, rfl⟩
          go_wp2_with fail
          refine hK.out _ _ q9 (fun hHeld => ?_)
          clear hK K
          try simp only [Act.put, List.setIfInBounds_toArray, List.set_cons_zero, List.set_cons_succ]
          refine wpAnyH_take (i := 24) (v := (.bool false)) (by simp only [List.getElem?_toArray, List.getElem?_cons_succ, List.getElem?_cons_zero]; rfl) (by kernel_rfl) (by kernel_rfl) (by kernel_rfl) (fun _ _ _ h => h) (Or.inl ⟨by rfl, ?_⟩) (by assumption) ?_
          · intro w hSw
            try dsimp only at hSw
            go_simp
          try simp only [Act.put, List.setIfInBounds_toArray, List.set_cons_zero, List.set_cons_succ]
          refine wpAnyH_take (i := 25) (v := (.bool false)) (by simp only [List.getElem?_toArray, List.getElem?_cons_succ, List.getElem?_cons_zero]; rfl) (by kernel_rfl) (by kernel_rfl) (by kernel_rfl) (fun _ _ _ h => h) (Or.inl ⟨by rfl, ?_⟩) (by assumption) ?_
          · intro w hSw
            try dsimp only at hSw
            go_simp
          try simp only [Act.put, List.setIfInBounds_toArray, List.set_cons_zero, List.set_cons_succ]
          refine wpAnyH_take (i := 26) (v := (.bool false)) (by simp only [List.getElem?_toArray, List.getElem?_cons_succ, List.getElem?_cons_zero]; rfl) (by kernel_rfl) (by kernel_rfl) (by kernel_rfl) (fun _ _ _ h => h) (Or.inl ⟨by rfl, ?_⟩) (by assumption) ?_
          · intro w hSw
            try dsimp only at hSw
            go_simp
          try simp only [Act.put, List.setIfInBounds_toArray, List.set_cons_zero, List.set_cons_succ]
          refine wpAnyH_take (i := 27) (v := (.bool false)) (by simp only [List.getElem?_toArray, List.getElem?_cons_succ, List.getElem?_cons_zero]; rfl) (by kernel_rfl) (by kernel_rfl) (by kernel_rfl) (fun _ _ _ h => h) (Or.inl ⟨by rfl, ?_⟩) (by assumption) ?_
          · intro w hSw
            try dsimp only at hSw
            go_simp
          try simp only [Act.put, List.setIfInBounds_toArray, List.set_cons_zero, List.set_cons_succ]
          refine wpAnyH_take (i := 28) (v := ?_) (by simp only [List.getElem?_toArray, List.getElem?_cons_succ, List.getElem?_cons_zero]; rfl) (by kernel_rfl) (by kernel_rfl) (by kernel_rfl) (fun _ _ _ h => h) (Or.inl ⟨by rfl, ?_⟩) (by assumption) ?_
          rotate_left
          · intro w hSw
            try dsimp only at hSw
            go_simp
            try with_reducible rfl
          try simp only [Act.put, List.setIfInBounds_toArray, List.set_cons_zero, List.set_cons_succ]
          refine wpAnyH_take (i := 29) (v := ?_) (by simp only [List.getElem?_toArray, List.getElem?_cons_succ, List.getElem?_cons_zero]; rfl) (by kernel_rfl) (by kernel_rfl) (by kernel_rfl) (fun _ _ _ h => h) (Or.inl ⟨by rfl, ?_⟩) (by assumption) ?_
          rotate_left
          · intro w hSw
            try dsimp only at hSw
            go_simp
            try with_reducible rfl
          try simp only [Act.put, List.setIfInBounds_toArray, List.set_cons_zero, List.set_cons_succ]
          refine wpAnyH_take (i := 31) (v := ?_) (by simp only [List.getElem?_toArray, List.getElem?_cons_succ, List.getElem?_cons_zero]; rfl) (by kernel_rfl) (by kernel_rfl) (by kernel_rfl) (fun _ _ _ h => h) (Or.inl ⟨by rfl, ?_⟩) (by assumption) ?_
          rotate_left
          · intro w hSw
            try dsimp only at hSw
            go_simp
            try with_reducible rfl
          try simp only [Act.put, List.setIfInBounds_toArray, List.set_cons_zero, List.set_cons_succ]
          refine wpAnyH_ready (rs := [30]) (by kernel_rfl) (by simp) ?_
          refine AllReadyH.cons (by simp only [List.getElem?_toArray, List.getElem?_cons_succ, List.getElem?_cons_zero]; rfl) (fun K hK => ?_) AllReadyH.nil
          go_simp
          refine HU9.out.mono ?_
          rintro e w' ⟨rfl, rfl⟩
          go_wp2_with fail
          refine hK.out _ _ q9 (fun hHeld => ?_)
          clear hK K
          try simp only [Act.put, List.setIfInBounds_toArray, List.set_cons_zero, List.set_cons_succ]
          refine wpAnyH_take (i := 32) (v := (.bool false)) (by simp only [List.getElem?_toArray, List.getElem?_cons_succ, List.getElem?_cons_zero]; rfl) (by kernel_rfl) (by kernel_rfl) (by kernel_rfl) (fun _ _ _ h => h) (Or.inl ⟨by rfl, ?_⟩) (by assumption) ?_
          · intro w hSw
            try dsimp only at hSw
            go_simp
          try simp only [Act.put, List.setIfInBounds_toArray, List.set_cons_zero, List.set_cons_succ]
          refine wpAnyH_take (i := 33) (v := (.bool false)) (by simp only [List.getElem?_toArray, List.getElem?_cons_succ, List.getElem?_cons_zero]; rfl) (by kernel_rfl) (by kernel_rfl) (by kernel_rfl) (fun _ _ _ h => h) (Or.inl ⟨by rfl, ?_⟩) (by assumption) ?_
          · intro w hSw
            try dsimp only at hSw
            go_simp
          try simp only [Act.put, List.setIfInBounds_toArray, List.set_cons_zero, List.set_cons_succ]
          refine wpAnyH_done (by kernel_rfl) ?_ _
          refine NoPanic.normal ?_
          by_cases hrm : z.what.tmod 5 = 0
          · go_wp2_with fail
            refine (names_to w9 _ d S8 s C9.out.ds (by have := HLV.out.works; omega)).mono ?_
            rintro e x1 ⟨v3, rfl, o3, b3⟩
            rw [HLV.out.dead] at o3
            simp only [Bool.false_eq_true, if_false] at o3
            obtain ⟨p3, c3, rfl⟩ := own_slice o3
            have D1 := Lib.hid (C9.out.kb b3)
            clear b3 o3
            cases hnm : nms (s).files with
            | nil =>
              go_wp2_with fail
              exact ⟨⟨k + 1, S8, s, by have := HKN.out; omega, by have := HKN.out; omega, by go_num, Lib.hid ⟨D1.out, live_mono HLV.out (by omega)⟩⟩, by simp [intOf]; have := HKN.out; omega⟩
            | cons a r =>
              have hlen : ((a :: r).length : Int) = (r.length : Int) + 1 := by simp
              have hpos : 0 < (r.length : Int) + 1 := by omega
              have HAL : Hid (a.length ≤ 20) := Lib.hid (by
                have h1 : a ∈ nms (s).files := by rw [hnm]; exact List.mem_cons_self
                obtain ⟨q, hq, rfl⟩ := List.mem_map.1 h1
                exact HLV.out.nm q hq)
              have HNM := Lib.hid hnm
              clear hnm
              go_wp2_with fail
              refine (names_to x1 _ d S8 s D1.out.ds (by have := HLV.out.works; omega)).mono ?_
              rintro e x2 ⟨v4, rfl, o4, b4⟩
              rw [HLV.out.dead] at o4
              simp only [Bool.false_eq_true, if_false] at o4
              rw [HNM.out] at o4
              obtain ⟨p4, c4, rfl⟩ := own_slice o4
              have D2 := Lib.hid (D1.out.kb b4)
              obtain ⟨g4, rfl, hc4⟩ := row_first D2.out (RBes.new o4 D1.out)
              clear b4 o4
              go_wp2_with fail
              refine (remove_to x2 _ d S8 s a D2.out.ds (by have := HLV.out.works; omega) (by rw [HLV.out.fuse]; decide) (Nat.le_trans HAL.out (by decide))).mono ?_
              rintro e x3 ⟨rfl, S9, h9, o9, s9⟩
              have D3 := Lib.hid (D2.out.step h9 o9 s9)
              have HL3 := Lib.hid (live_rem HLV.out (ds_asc D2.out.ds) a)
              clear h9 o9 s9
              go_wp2_with fail
              exact ⟨⟨k + 1, S9, _, by have := HKN.out; omega, by have := HKN.out; omega, by go_num, Lib.hid ⟨D3.out, live_mono HL3.out (by omega)⟩⟩, by simp [intOf]; have := HKN.out; omega⟩
          · go_wp2_with fail
            exact ⟨⟨k + 1, S8, s, by have := HKN.out; omega, by have := HKN.out; omega, by go_num, Lib.hid ⟨C9.out, live_mono HLV.out (by omega)⟩⟩, by simp [intOf]; have := HKN.out; omega⟩
        · obtain ⟨a1, a2, a3⟩ := live_app_yes HR.out.live (ds_asc HR.out.cl.ds) (n := [97]) (by decide) hfit
          rw [a1, show enoOf 0 = .nilIface from rfl]
          generalize (s.append [97] z.b).2 = s2 at *
          have C8 : Hid (Cl w w8 w.heap.size d S8 s2) := Lib.hid (HR.out.cl.step h8 o8 s8)
          have HLV : Hid (Live s2 R (2 * k + 1)) := Lib.hid a2
          clear a1 a2 h8 o8 s8
          obtain ⟨q0, q1, q5⟩ := HCW.out w8 C8.out.bel
          have hwr : IntKind.i64.wrap ((s.used : Int) + (z.b.length : Int)) = (s.used : Int) + (z.b.length : Int) := IntWalk.i64_in _ (by have h1 := HZB.out; have h2 := HLV.out.used; omega)
          have hf2 : (s.used : Int) + (z.b.length : Int) ≤ R := by omega
          have hus2 : ¬ R < (s2.used : Int) := by have := HLV.out.used; omega
          have HU8 : Hid (∀ q, Calls Tryd.prog 34 #[.pointer (some ⟨d,0,none⟩)] (w8.drewN q) fun e w' => e = .returned (.int .i64 s2.used) ∧ w8.drewN q = w') := Lib.hid (fun q => by
            have h1 := used_ds2 (w8.drewN q) _ d S8 s2 (C8.out.ds.kb ⟨rfl, rfl, rfl, Nat.le_refl _, fun _ _ => rfl⟩)
            rw [HLV.out.dead] at h1
            simp only [Bool.false_eq_true, if_false] at h1
            exact h1)
          clear a3 hfit q1
          go_wp2_with fail
          go_quiet ((go_at_call 34; exact Calls.quiet_of_same ((HU8.out _).mono fun _ _ h => ⟨h.1, h.2.symm⟩)))
          have C9 : Hid (Cl w (w8.drewN nq) w.heap.size d S8 s2) := Lib.hid (C8.out.kb ⟨rfl, rfl, rfl, Nat.le_refl _, fun _ _ => rfl⟩)
          clear q0 q5 HU8 C8
          generalize w8.drewN nq = w9 at *
          obtain ⟨q0, _, _⟩ := HCW.out w9 C9.out.bel
          by_cases hrm : z.what.tmod 5 = 0
          · go_wp2_with fail
            refine (names_to w9 _ d S8 s2 C9.out.ds (by have := HLV.out.works; omega)).mono ?_
            rintro e x1 ⟨v3, rfl, o3, b3⟩
            rw [HLV.out.dead] at o3
            simp only [Bool.false_eq_true, if_false] at o3
            obtain ⟨p3, c3, rfl⟩ := own_slice o3
            have D1 := Lib.hid (C9.out.kb b3)
            clear b3 o3
            cases hnm : nms (s2).files with
            | nil =>
              go_wp2_with fail
              exact ⟨⟨k + 1, S8, s2, by have := HKN.out; omega, by have := HKN.out; omega, by go_num, Lib.hid ⟨D1.out, live_mono HLV.out (by omega)⟩⟩, by simp [intOf]; have := HKN.out; omega⟩
            | cons a r =>
              have hlen : ((a :: r).length : Int) = (r.length : Int) + 1 := by simp
              have hpos : 0 < (r.length : Int) + 1 := by omega
              have HAL : Hid (a.length ≤ 20) := Lib.hid (by
                have h1 : a ∈ nms (s2).files := by rw [hnm]; exact List.mem_cons_self
                obtain ⟨q, hq, rfl⟩ := List.mem_map.1 h1
                exact HLV.out.nm q hq)
              have HNM := Lib.hid hnm
              clear hnm
              go_wp2_with fail
              refine (names_to x1 _ d S8 s2 D1.out.ds (by have := HLV.out.works; omega)).mono ?_
              rintro e x2 ⟨v4, rfl, o4, b4⟩
              rw [HLV.out.dead] at o4
              simp only [Bool.false_eq_true, if_false] at o4
              rw [HNM.out] at o4
              obtain ⟨p4, c4, rfl⟩ := own_slice o4
              have D2 := Lib.hid (D1.out.kb b4)
              obtain ⟨g4, rfl, hc4⟩ := row_first D2.out (RBes.new o4 D1.out)
              clear b4 o4
              go_wp2_with fail
              refine (remove_to x2 _ d S8 s2 a D2.out.ds (by have := HLV.out.works; omega) (by rw [HLV.out.fuse]; decide) (Nat.le_trans HAL.out (by decide))).mono ?_
              rintro e x3 ⟨rfl, S9, h9, o9, s9⟩
              have D3 := Lib.hid (D2.out.step h9 o9 s9)
              have HL3 := Lib.hid (live_rem HLV.out (ds_asc D2.out.ds) a)
              clear h9 o9 s9
              go_wp2_with fail
              exact ⟨⟨k + 1, S9, _, by have := HKN.out; omega, by have := HKN.out; omega, by go_num, Lib.hid ⟨D3.out, live_mono HL3.out (by omega)⟩⟩, by simp [intOf]; have := HKN.out; omega⟩
          · go_wp2_with fail
            exact ⟨⟨k + 1, S8, s2, by have := HKN.out; omega, by have := HKN.out; omega, by go_num, Lib.hid ⟨C9.out, live_mono HLV.out (by omega)⟩⟩, by simp [intOf]; have := HKN.out; omega⟩
      · have HP := Lib.hid (pick_to wr z.name 4 1 (by decide) (by decide) hm)
        clear hm
        go_wp2_with fail
        refine HP.out.mono ?_
        rintro e w' ⟨rfl, rfl⟩
        clear HP
        have hix : (Instr.index 80 (.agg #[.string ⟨#[97]⟩, .string ⟨#[98]⟩, .string ⟨#[108, 111, 103]⟩, .string ⟨#[114, 111, 111, 116]⟩]) (.int .i64 1)).run Tryd.prog wr = .ok (.string ⟨#[98]⟩) wr := index_four _ rfl 1 wr (by decide) (by decide)
        go_wp2_with fail
        refine (append_nb wr _ d S s [98] (.slice z.q z.b.length z.c) z.b HR.out.cl.ds (by have := HR.out.live.works; omega) (by rw [HR.out.live.fuse]; decide) (by decide) (HSE.out wr HR.out.cl.bel) HUS.out).mono ?_
        rintro e w8 ⟨rfl, S8, h8, o8, s8⟩
        clear q0 q1 q5 hix
        by_cases hfit : R < (s.used : Int) + z.b.length
        · have ha := live_app_no HR.out.live (n := [98]) (by decide) hfit
          rw [ha] at h8
          rw [ha, show enoOf 6 = eno 6 from if_neg (by decide)]
          have C8 : Hid (Cl w w8 w.heap.size d S8 s) := Lib.hid (HR.out.cl.step h8 o8 s8)
          have HLV : Hid (Live s R (2 * k + 1)) := Lib.hid (live_mono HR.out.live (Nat.le_succ _))
          clear ha h8 o8 s8
          obtain ⟨q0, q1, q5⟩ := HCW.out w8 C8.out.bel
          have hwr : IntKind.i64.wrap ((s.used : Int) + (z.b.length : Int)) = (s.used : Int) + (z.b.length : Int) := IntWalk.i64_in _ (by have h1 := HZB.out; have h2 := HLV.out.used; omega)
          have hf2 : ¬ (s.used : Int) + (z.b.length : Int) ≤ R := by omega
          have hus2 : ¬ R < (s.used : Int) := by have := HLV.out.used; omega
          have HKD := Lib.hid (khand_eno w8.drew 6 (by decide) (HG.out.kb (C8.out.bel.drew)))
          clear q0 q1
          go_wp2_with fail
          try simp only [List.append]
          refine wp_region_noPanic ?_
          refine wp_region_held_drew (S := (fun W => W.cell? ⟨eb, eo + k * 6 + 5, none⟩ = some (.slice z.q z.b.length z.c))) (by kernel_rfl) q5 (fun hHeld => ?_)
          refine wpAnyH_take (i := 0) (v := ?_) (by simp only [List.getElem?_toArray, List.getElem?_cons_zero]; rfl) (by kernel_rfl) (by kernel_rfl) (by kernel_rfl) (fun _ _ _ h => h) (Or.inl ⟨by rfl, ?_⟩) (by assumption) ?_
          rotate_left
          · intro w hSw
            try dsimp only at hSw
            go_simp
            try with_reducible rfl
          try simp only [Act.put, List.setIfInBounds_toArray, List.set_cons_zero, List.set_cons_succ]
          refine wpAnyH_take (i := 1) (v := (.bool false)) (by simp only [List.getElem?_toArray, List.getElem?_cons_succ, List.getElem?_cons_zero]; rfl) (by kernel_rfl) (by kernel_rfl) (by kernel_rfl) (fun _ _ _ h => h) (Or.inl ⟨by rfl, ?_⟩) (by assumption) ?_
          · intro w hSw
            try dsimp only at hSw
            go_simp
          try simp only [Act.put, List.setIfInBounds_toArray, List.set_cons_zero, List.set_cons_succ]
          refine wpAnyH_take (i := 2) (v := ?_) (by simp only [List.getElem?_toArray, List.getElem?_cons_succ, List.getElem?_cons_zero]; rfl) (by kernel_rfl) (by kernel_rfl) (by kernel_rfl) (fun _ _ _ h => h) (Or.inl ⟨by rfl, ?_⟩) (by assumption) ?_
          rotate_left
          · intro w hSw
            try dsimp only at hSw
            go_simp
            try with_reducible rfl
          try simp only [Act.put, List.setIfInBounds_toArray, List.set_cons_zero, List.set_cons_succ]
          refine wpAnyH_take (i := 3) (v := ?_) (by simp only [List.getElem?_toArray, List.getElem?_cons_succ, List.getElem?_cons_zero]; rfl) (by kernel_rfl) (by kernel_rfl) (by kernel_rfl) (fun _ _ _ h => h) (Or.inl ⟨by rfl, ?_⟩) (by assumption) ?_
          rotate_left
          · intro w hSw
            try dsimp only at hSw
            go_simp
            try with_reducible rfl
          try simp only [Act.put, List.setIfInBounds_toArray, List.set_cons_zero, List.set_cons_succ]
          refine wpAnyH_take (i := 4) (v := ?_) (by simp only [List.getElem?_toArray, List.getElem?_cons_succ, List.getElem?_cons_zero]; rfl) (by kernel_rfl) (by kernel_rfl) (by kernel_rfl) (fun _ _ _ h => h) (Or.inl ⟨by rfl, ?_⟩) (by assumption) ?_
          rotate_left
          · intro w hSw
            try dsimp only at hSw
            go_simp
            try with_reducible rfl
          try simp only [Act.put, List.setIfInBounds_toArray, List.set_cons_zero, List.set_cons_succ]
          refine wpAnyH_take (i := 5) (v := ?_) (by simp only [List.getElem?_toArray, List.getElem?_cons_succ, List.getElem?_cons_zero]; rfl) (by kernel_rfl) (by kernel_rfl) (by kernel_rfl) (fun _ _ _ h => h) (Or.inl ⟨by rfl, ?_⟩) (by assumption) ?_
          rotate_left
          · intro w hSw
            try dsimp only at hSw
            go_simp
            try with_reducible rfl
          try simp only [Act.put, List.setIfInBounds_toArray, List.set_cons_zero, List.set_cons_succ]
          refine wpAnyH_take (i := 6) (v := ?_) (by simp only [List.getElem?_toArray, List.getElem?_cons_succ, List.getElem?_cons_zero]; rfl) (by kernel_rfl) (by kernel_rfl) (by kernel_rfl) (fun _ _ _ h => h) (Or.inl ⟨by rfl, ?_⟩) (by assumption) ?_
          rotate_left
          · intro w hSw
            try dsimp only at hSw
            go_simp
            try with_reducible rfl
          try simp only [Act.put, List.setIfInBounds_toArray, List.set_cons_zero, List.set_cons_succ]
          refine wpAnyH_take (i := 7) (v := ?_) (by simp only [List.getElem?_toArray, List.getElem?_cons_succ, List.getElem?_cons_zero]; rfl) (by kernel_rfl) (by kernel_rfl) (by kernel_rfl) (fun _ _ _ h => h) (Or.inl ⟨by rfl, ?_⟩) (by assumption) ?_
          rotate_left
          · intro w hSw
            try dsimp only at hSw
            go_simp
            try with_reducible rfl
          try simp only [Act.put, List.setIfInBounds_toArray, List.set_cons_zero, List.set_cons_succ]
          refine wpAnyH_take (i := 8) (v := ?_) (by simp only [List.getElem?_toArray, List.getElem?_cons_succ, List.getElem?_cons_zero]; rfl) (by kernel_rfl) (by kernel_rfl) (by kernel_rfl) (fun _ _ _ h => h) (Or.inl ⟨by rfl, ?_⟩) (by assumption) ?_
          rotate_left
          · intro w hSw
            try dsimp only at hSw
            go_simp
            try with_reducible rfl
          try simp only [Act.put, List.setIfInBounds_toArray, List.set_cons_zero, List.set_cons_succ]
          refine wpAnyH_take (i := 9) (v := ?_) (by simp only [List.getElem?_toArray, List.getElem?_cons_succ, List.getElem?_cons_zero]; rfl) (by kernel_rfl) (by kernel_rfl) (by kernel_rfl) (fun _ _ _ h => h) (Or.inl ⟨by rfl, ?_⟩) (by assumption) ?_
          rotate_left
          · intro w hSw
            try dsimp only at hSw
            go_simp
            try with_reducible rfl
          try simp only [Act.put, List.setIfInBounds_toArray, List.set_cons_zero, List.set_cons_succ]
          refine wpAnyH_take (i := 10) (v := ?_) (by simp only [List.getElem?_toArray, List.getElem?_cons_succ, List.getElem?_cons_zero]; rfl) (by kernel_rfl) (by kernel_rfl) (by kernel_rfl) (fun _ _ _ h => h) (Or.inl ⟨by rfl, ?_⟩) (by assumption) ?_
          rotate_left
          · intro w hSw
            try dsimp only at hSw
            go_simp
            try with_reducible rfl
          try simp only [Act.put, List.setIfInBounds_toArray, List.set_cons_zero, List.set_cons_succ]
          refine wpAnyH_take (i := 11) (v := (.bool false)) (by simp only [List.getElem?_toArray, List.getElem?_cons_succ, List.getElem?_cons_zero]; rfl) (by kernel_rfl) (by kernel_rfl) (by kernel_rfl) (fun _ _ _ h => h) (Or.inl ⟨by rfl, ?_⟩) (by assumption) ?_
          · intro w hSw
            try dsimp only at hSw
            go_simp
          try simp only [Act.put, List.setIfInBounds_toArray, List.set_cons_zero, List.set_cons_succ]
          refine wpAnyH_take (i := 12) (v := (.bool false)) (by simp only [List.getElem?_toArray, List.getElem?_cons_succ, List.getElem?_cons_zero]; rfl) (by kernel_rfl) (by kernel_rfl) (by kernel_rfl) (fun _ _ _ h => h) (Or.inl ⟨by rfl, ?_⟩) (by assumption) ?_
          · intro w hSw
            try dsimp only at hSw
            go_simp
          try simp only [Act.put, List.setIfInBounds_toArray, List.set_cons_zero, List.set_cons_succ]
          refine wpAnyH_take (i := 13) (v := ?_) (by simp only [List.getElem?_toArray, List.getElem?_cons_succ, List.getElem?_cons_zero]; rfl) (by kernel_rfl) (by kernel_rfl) (by kernel_rfl) (fun _ _ _ h => h) (Or.inl ⟨by rfl, ?_⟩) (by assumption) ?_
          rotate_left
          · intro w hSw
            try dsimp only at hSw
            go_simp
            try with_reducible rfl
          try simp only [Act.put, List.setIfInBounds_toArray, List.set_cons_zero, List.set_cons_succ]
          refine wpAnyH_take (i := 14) (v := ?_) (by simp only [List.getElem?_toArray, List.getElem?_cons_succ, List.getElem?_cons_zero]; rfl) (by kernel_rfl) (by kernel_rfl) (by kernel_rfl) (fun _ _ _ h => h) (Or.inl ⟨by rfl, ?_⟩) (by assumption) ?_
          rotate_left
          · intro w hSw
            try dsimp only at hSw
            go_simp
            try with_reducible rfl
          try simp only [Act.put, List.setIfInBounds_toArray, List.set_cons_zero, List.set_cons_succ]
          refine wpAnyH_take (i := 15) (v := (.bool true)) (by simp only [List.getElem?_toArray, List.getElem?_cons_succ, List.getElem?_cons_zero]; rfl) (by kernel_rfl) (by kernel_rfl) (by kernel_rfl) (fun _ _ _ h => h) (Or.inl ⟨by rfl, ?_⟩) (by assumption) ?_
          · intro w hSw
            try dsimp only at hSw
            go_simp
          try simp only [Act.put, List.setIfInBounds_toArray, List.set_cons_zero, List.set_cons_succ]
          refine wpAnyH_take (i := 16) (v := ?_) (by simp only [List.getElem?_toArray, List.getElem?_cons_succ, List.getElem?_cons_zero]; rfl) (by kernel_rfl) (by kernel_rfl) (by kernel_rfl) (fun _ _ _ h => h) (Or.inl ⟨by rfl, ?_⟩) (by assumption) ?_
          rotate_left
          · intro w hSw
            try dsimp only at hSw
            go_simp
            try with_reducible rfl
          try simp only [Act.put, List.setIfInBounds_toArray, List.set_cons_zero, List.set_cons_succ]
          refine wpAnyH_take (i := 17) (v := ?_) (by simp only [List.getElem?_toArray, List.getElem?_cons_succ, List.getElem?_cons_zero]; rfl) (by kernel_rfl) (by kernel_rfl) (by kernel_rfl) (fun _ _ _ h => h) (Or.inl ⟨by rfl, ?_⟩) (by assumption) ?_
          rotate_left
          · intro w hSw
            try dsimp only at hSw
            go_simp
            try with_reducible rfl
          try simp only [Act.put, List.setIfInBounds_toArray, List.set_cons_zero, List.set_cons_succ]
          refine wpAnyH_ready (rs := [18]) (by kernel_rfl) (by simp) ?_
          refine AllReadyH.cons (by simp only [List.getElem?_toArray, List.getElem?_cons_succ, List.getElem?_cons_zero]; rfl) (fun K hK => ?_) AllReadyH.nil
          go_simp
          refine HKD.out.mono ?_
          rintro e w9 ⟨rfl, b9⟩
          have C9 := Lib.hid (C8.out.kb (W' := w9) ⟨b9.os, b9.tape, b9.output, b9.size, b9.block⟩)
          obtain ⟨_, _, q9⟩ := HCW.out w9 C9.out.bel
          have HU9 := Lib.hid (used_ds2 w9 _ d S8 s C9.out.ds)
          rw [HLV.out.dead] at HU9
          simp only [Bool.false_eq_true, if_false] at HU9
          clear b9
          go_wp2_with fail
          refine hK.out _ _ q9 (fun hHeld => ?_)
          clear hK K
          try simp only [Act.put, List.setIfInBounds_toArray, List.set_cons_zero, List.set_cons_succ]
          refine wpAnyH_take (i := 19) (v := (.bool false)) (by simp only [List.getElem?_toArray, List.getElem?_cons_succ, List.getElem?_cons_zero]; rfl) (by kernel_rfl) (by kernel_rfl) (by kernel_rfl) (fun _ _ _ h => h) (Or.inl ⟨by rfl, ?_⟩) (by assumption) ?_
          · intro w hSw
            try dsimp only at hSw
            go_simp
          try simp only [Act.put, List.setIfInBounds_toArray, List.set_cons_zero, List.set_cons_succ]
          refine wpAnyH_take (i := 20) (v := ?_) (by simp only [List.getElem?_toArray, List.getElem?_cons_succ, List.getElem?_cons_zero]; rfl) (by kernel_rfl) (by kernel_rfl) (by kernel_rfl) (fun _ _ _ h => h) (Or.inl ⟨by rfl, ?_⟩) (by assumption) ?_
          rotate_left
          · intro w hSw
            try dsimp only at hSw
            go_simp
            try with_reducible rfl
          try simp only [Act.put, List.setIfInBounds_toArray, List.set_cons_zero, List.set_cons_succ]
          refine wpAnyH_take (i := 21) (v := ?_) (by simp only [List.getElem?_toArray, List.getElem?_cons_succ, List.getElem?_cons_zero]; rfl) (by kernel_rfl) (by kernel_rfl) (by kernel_rfl) (fun _ _ _ h => h) (Or.inl ⟨by rfl, ?_⟩) (by assumption) ?_
          rotate_left
          · intro w hSw
            try dsimp only at hSw
            go_simp
            try with_reducible rfl
          try simp only [Act.put, List.setIfInBounds_toArray, List.set_cons_zero, List.set_cons_succ]
          refine wpAnyH_take (i := 23) (v := ?_) (by simp only [List.getElem?_toArray, List.getElem?_cons_succ, List.getElem?_cons_zero]; rfl) (by kernel_rfl) (by kernel_rfl) (by kernel_rfl) (fun _ _ _ h => h) (Or.inl ⟨by rfl, ?_⟩) (by assumption) ?_
          rotate_left
          · intro w hSw
            try dsimp only at hSw
            go_simp
            try with_reducible rfl
          try simp only [Act.put, List.setIfInBounds_toArray, List.set_cons_zero, List.set_cons_succ]
          refine wpAnyH_ready (rs := [22]) (by kernel_rfl) (by simp) ?_
          refine AllReadyH.cons (by simp only [List.getElem?_toArray, List.getElem?_cons_succ, List.getElem?_cons_zero]; rfl) (fun K hK => ?_) AllReadyH.nil
          go_simp
          refine HU9.out.mono ?_
          rintro e w' ⟨rfl, rfl⟩
          go_wp2_with fail
          refine hK.out _ _ q9 (fun hHeld => ?_)
          clear hK K
          try simp only [Act.put, List.setIfInBounds_toArray, List.set_cons_zero, List.set_cons_succ]
          refine wpAnyH_take (i := 24) (v := (.bool false)) (by simp only [List.getElem?_toArray, List.getElem?_cons_succ, List.getElem?_cons_zero]; rfl) (by kernel_rfl) (by kernel_rfl) (by kernel_rfl) (fun _ _ _ h => h) (Or.inl ⟨by rfl, ?_⟩) (by assumption) ?_
          · intro w hSw
            try dsimp only at hSw
            go_simp
          try simp only [Act.put, List.setIfInBounds_toArray, List.set_cons_zero, List.set_cons_succ]
          refine wpAnyH_take (i := 25) (v := (.bool false)) (by simp only [List.getElem?_toArray, List.getElem?_cons_succ, List.getElem?_cons_zero]; rfl) (by kernel_rfl) (by kernel_rfl) (by kernel_rfl) (fun _ _ _ h => h) (Or.inl ⟨by rfl, ?_⟩) (by assumption) ?_
          · intro w hSw
            try dsimp only at hSw
            go_simp
          try simp only [Act.put, List.setIfInBounds_toArray, List.set_cons_zero, List.set_cons_succ]
          refine wpAnyH_take (i := 26) (v := (.bool false)) (by simp only [List.getElem?_toArray, List.getElem?_cons_succ, List.getElem?_cons_zero]; rfl) (by kernel_rfl) (by kernel_rfl) (by kernel_rfl) (fun _ _ _ h => h) (Or.inl ⟨by rfl, ?_⟩) (by assumption) ?_
          · intro w hSw
            try dsimp only at hSw
            go_simp
          try simp only [Act.put, List.setIfInBounds_toArray, List.set_cons_zero, List.set_cons_succ]
          refine wpAnyH_take (i := 27) (v := (.bool false)) (by simp only [List.getElem?_toArray, List.getElem?_cons_succ, List.getElem?_cons_zero]; rfl) (by kernel_rfl) (by kernel_rfl) (by kernel_rfl) (fun _ _ _ h => h) (Or.inl ⟨by rfl, ?_⟩) (by assumption) ?_
          · intro w hSw
            try dsimp only at hSw
            go_simp
          try simp only [Act.put, List.setIfInBounds_toArray, List.set_cons_zero, List.set_cons_succ]
          refine wpAnyH_take (i := 28) (v := ?_) (by simp only [List.getElem?_toArray, List.getElem?_cons_succ, List.getElem?_cons_zero]; rfl) (by kernel_rfl) (by kernel_rfl) (by kernel_rfl) (fun _ _ _ h => h) (Or.inl ⟨by rfl, ?_⟩) (by assumption) ?_
          rotate_left
          · intro w hSw
            try dsimp only at hSw
            go_simp
            try with_reducible rfl
          try simp only [Act.put, List.setIfInBounds_toArray, List.set_cons_zero, List.set_cons_succ]
          refine wpAnyH_take (i := 29) (v := ?_) (by simp only [List.getElem?_toArray, List.getElem?_cons_succ, List.getElem?_cons_zero]; rfl) (by kernel_rfl) (by kernel_rfl) (by kernel_rfl) (fun _ _ _ h => h) (Or.inl ⟨by rfl, ?_⟩) (by assumption) ?_
          rotate_left
          · intro w hSw
            try dsimp only at hSw
            go_simp
            try with_reducible rfl
          try simp only [Act.put, List.setIfInBounds_toArray, List.set_cons_zero, List.set_cons_succ]
          refine wpAnyH_take (i := 31) (v := ?_) (by simp only [List.getElem?_toArray, List.getElem?_cons_succ, List.getElem?_cons_zero]; rfl) (by kernel_rfl) (by kernel_rfl) (by kernel_rfl) (fun _ _ _ h => h) (Or.inl ⟨by rfl, ?_⟩) (by assumption) ?_
          rotate_left
          · intro w hSw
            try dsimp only at hSw
            go_simp
            try with_reducible rfl
          try simp only [Act.put, List.setIfInBounds_toArray, List.set_cons_zero, List.set_cons_succ]
          refine wpAnyH_ready (rs := [30]) (by kernel_rfl) (by simp) ?_
          refine AllReadyH.cons (by simp only [List.getElem?_toArray, List.getElem?_cons_succ, List.getElem?_cons_zero]; rfl) (fun K hK => ?_) AllReadyH.nil
          go_simp
          refine HU9.out.mono ?_
          rintro e w' ⟨rfl, rfl⟩
          go_wp2_with fail
          refine hK.out _ _ q9 (fun hHeld => ?_)
          clear hK K
          try simp only [Act.put, List.setIfInBounds_toArray, List.set_cons_zero, List.set_cons_succ]
          refine wpAnyH_take (i := 32) (v := (.bool false)) (by simp only [List.getElem?_toArray, List.getElem?_cons_succ, List.getElem?_cons_zero]; rfl) (by kernel_rfl) (by kernel_rfl) (by kernel_rfl) (fun _ _ _ h => h) (Or.inl ⟨by rfl, ?_⟩) (by assumption) ?_
          · intro w hSw
            try dsimp only at hSw
            go_simp
          try simp only [Act.put, List.setIfInBounds_toArray, List.set_cons_zero, List.set_cons_succ]
          refine wpAnyH_take (i := 33) (v := (.bool false)) (by simp only [List.getElem?_toArray, List.getElem?_cons_succ, List.getElem?_cons_zero]; rfl) (by kernel_rfl) (by kernel_rfl) (by kernel_rfl) (fun _ _ _ h => h) (Or.inl ⟨by rfl, ?_⟩) (by assumption) ?_
          · intro w hSw
            try dsimp only at hSw
            go_simp
          try simp only [Act.put, List.setIfInBounds_toArray, List.set_cons_zero, List.set_cons_succ]
          refine wpAnyH_done (by kernel_rfl) ?_ _
          refine NoPanic.normal ?_
          by_cases hrm : z.what.tmod 5 = 0
          · go_wp2_with fail
            refine (names_to w9 _ d S8 s C9.out.ds (by have := HLV.out.works; omega)).mono ?_
            rintro e x1 ⟨v3, rfl, o3, b3⟩
            rw [HLV.out.dead] at o3
            simp only [Bool.false_eq_true, if_false] at o3
            obtain ⟨p3, c3, rfl⟩ := own_slice o3
            have D1 := Lib.hid (C9.out.kb b3)
            clear b3 o3
            cases hnm : nms (s).files with
            | nil =>
              go_wp2_with fail
              exact ⟨⟨k + 1, S8, s, by have := HKN.out; omega, by have := HKN.out; omega, by go_num, Lib.hid ⟨D1.out, live_mono HLV.out (by omega)⟩⟩, by simp [intOf]; have := HKN.out; omega⟩
            | cons a r =>
              have hlen : ((a :: r).length : Int) = (r.length : Int) + 1 := by simp
              have hpos : 0 < (r.length : Int) + 1 := by omega
              have HAL : Hid (a.length ≤ 20) := Lib.hid (by
                have h1 : a ∈ nms (s).files := by rw [hnm]; exact List.mem_cons_self
                obtain ⟨q, hq, rfl⟩ := List.mem_map.1 h1
                exact HLV.out.nm q hq)
              have HNM := Lib.hid hnm
              clear hnm
              go_wp2_with fail
              refine (names_to x1 _ d S8 s D1.out.ds (by have := HLV.out.works; omega)).mono ?_
              rintro e x2 ⟨v4, rfl, o4, b4⟩
              rw [HLV.out.dead] at o4
              simp only [Bool.false_eq_true, if_false] at o4
              rw [HNM.out] at o4
              obtain ⟨p4, c4, rfl⟩ := own_slice o4
              have D2 := Lib.hid (D1.out.kb b4)
              obtain ⟨g4, rfl, hc4⟩ := row_first D2.out (RBes.new o4 D1.out)
              clear b4 o4
              go_wp2_with fail
              refine (remove_to x2 _ d S8 s a D2.out.ds (by have := HLV.out.works; omega) (by rw [HLV.out.fuse]; decide) (Nat.le_trans HAL.out (by decide))).mono ?_
              rintro e x3 ⟨rfl, S9, h9, o9, s9⟩
              have D3 := Lib.hid (D2.out.step h9 o9 s9)
              have HL3 := Lib.hid (live_rem HLV.out (ds_asc D2.out.ds) a)
              clear h9 o9 s9
              go_wp2_with fail
              exact ⟨⟨k + 1, S9, _, by have := HKN.out; omega, by have := HKN.out; omega, by go_num, Lib.hid ⟨D3.out, live_mono HL3.out (by omega)⟩⟩, by simp [intOf]; have := HKN.out; omega⟩
          · go_wp2_with fail
            exact ⟨⟨k + 1, S8, s, by have := HKN.out; omega, by have := HKN.out; omega, by go_num, Lib.hid ⟨C9.out, live_mono HLV.out (by omega)⟩⟩, by simp [intOf]; have := HKN.out; omega⟩
        · obtain ⟨a1, a2, a3⟩ := live_app_yes HR.out.live (ds_asc HR.out.cl.ds) (n := [98]) (by decide) hfit
          rw [a1, show enoOf 0 = .nilIface from rfl]
          generalize (s.append [98] z.b).2 = s2 at *
          have C8 : Hid (Cl w w8 w.heap.size d S8 s2) := Lib.hid (HR.out.cl.step h8 o8 s8)
          have HLV : Hid (Live s2 R (2 * k + 1)) := Lib.hid a2
          clear a1 a2 h8 o8 s8
          obtain ⟨q0, q1, q5⟩ := HCW.out w8 C8.out.bel
          have hwr : IntKind.i64.wrap ((s.used : Int) + (z.b.length : Int)) = (s.used : Int) + (z.b.length : Int) := IntWalk.i64_in _ (by have h1 := HZB.out; have h2 := HLV.out.used; omega)
          have hf2 : (s.used : Int) + (z.b.length : Int) ≤ R := by omega
          have hus2 : ¬ R < (s2.used : Int) := by have := HLV.out.used; omega
          have HU8 : Hid (∀ q, Calls Tryd.prog 34 #[.pointer (some ⟨d,0,none⟩)] (w8.drewN q) fun e w' => e = .returned (.int .i64 s2.used) ∧ w8.drewN q = w') := Lib.hid (fun q => by
            have h1 := used_ds2 (w8.drewN q) _ d S8 s2 (C8.out.ds.kb ⟨rfl, rfl, rfl, Nat.le_refl _, fun _ _ => rfl⟩)
            rw [HLV.out.dead] at h1
            simp only [Bool.false_eq_true, if_false] at h1
            exact h1)
          clear a3 hfit q1
          go_wp2_with fail
          go_quiet ((go_at_call 34; exact Calls.quiet_of_same ((HU8.out _).mono fun _ _ h => ⟨h.1, h.2.symm⟩)))
          have C9 : Hid (Cl w (w8.drewN nq) w.heap.size d S8 s2) := Lib.hid (C8.out.kb ⟨rfl, rfl, rfl, Nat.le_refl _, fun _ _ => rfl⟩)
          clear q0 q5 HU8 C8
          generalize w8.drewN nq = w9 at *
          obtain ⟨q0, _, _⟩ := HCW.out w9 C9.out.bel
          by_cases hrm : z.what.tmod 5 = 0
          · go_wp2_with fail
            refine (names_to w9 _ d S8 s2 C9.out.ds (by have := HLV.out.works; omega)).mono ?_
            rintro e x1 ⟨v3, rfl, o3, b3⟩
            rw [HLV.out.dead] at o3
            simp only [Bool.false_eq_true, if_false] at o3
            obtain ⟨p3, c3, rfl⟩ := own_slice o3
            have D1 := Lib.hid (C9.out.kb b3)
            clear b3 o3
            cases hnm : nms (s2).files with
            | nil =>
              go_wp2_with fail
              exact ⟨⟨k + 1, S8, s2, by have := HKN.out; omega, by have := HKN.out; omega, by go_num, Lib.hid ⟨D1.out, live_mono HLV.out (by omega)⟩⟩, by simp [intOf]; have := HKN.out; omega⟩
            | cons a r =>
              have hlen : ((a :: r).length : Int) = (r.length : Int) + 1 := by simp
              have hpos : 0 < (r.length : Int) + 1 := by omega
              have HAL : Hid (a.length ≤ 20) := Lib.hid (by
                have h1 : a ∈ nms (s2).files := by rw [hnm]; exact List.mem_cons_self
                obtain ⟨q, hq, rfl⟩ := List.mem_map.1 h1
                exact HLV.out.nm q hq)
              have HNM := Lib.hid hnm
              clear hnm
              go_wp2_with fail
              refine (names_to x1 _ d S8 s2 D1.out.ds (by have := HLV.out.works; omega)).mono ?_
              rintro e x2 ⟨v4, rfl, o4, b4⟩
              rw [HLV.out.dead] at o4
              simp only [Bool.false_eq_true, if_false] at o4
              rw [HNM.out] at o4
              obtain ⟨p4, c4, rfl⟩ := own_slice o4
              have D2 := Lib.hid (D1.out.kb b4)
              obtain ⟨g4, rfl, hc4⟩ := row_first D2.out (RBes.new o4 D1.out)
              clear b4 o4
              go_wp2_with fail
              refine (remove_to x2 _ d S8 s2 a D2.out.ds (by have := HLV.out.works; omega) (by rw [HLV.out.fuse]; decide) (Nat.le_trans HAL.out (by decide))).mono ?_
              rintro e x3 ⟨rfl, S9, h9, o9, s9⟩
              have D3 := Lib.hid (D2.out.step h9 o9 s9)
              have HL3 := Lib.hid (live_rem HLV.out (ds_asc D2.out.ds) a)
              clear h9 o9 s9
              go_wp2_with fail
              exact ⟨⟨k + 1, S9, _, by have := HKN.out; omega, by have := HKN.out; omega, by go_num, Lib.hid ⟨D3.out, live_mono HL3.out (by omega)⟩⟩, by simp [intOf]; have := HKN.out; omega⟩
          · go_wp2_with fail
            exact ⟨⟨k + 1, S8, s2, by have := HKN.out; omega, by have := HKN.out; omega, by go_num, Lib.hid ⟨C9.out, live_mono HLV.out (by omega)⟩⟩, by simp [intOf]; have := HKN.out; omega⟩
      · have HP := Lib.hid (pick_to wr z.name 4 2 (by decide) (by decide) hm)
        clear hm
        go_wp2_with fail
        refine HP.out.mono ?_
        rintro e w' ⟨rfl, rfl⟩
        clear HP
        have hix : (Instr.index 80 (.agg #[.string ⟨#[97]⟩, .string ⟨#[98]⟩, .string ⟨#[108, 111, 103]⟩, .string ⟨#[114, 111, 111, 116]⟩]) (.int .i64 2)).run Tryd.prog wr = .ok (.string ⟨#[108, 111, 103]⟩) wr := index_four _ rfl 2 wr (by decide) (by decide)
        go_wp2_with fail
        refine (append_nb wr _ d S s [108, 111, 103] (.slice z.q z.b.length z.c) z.b HR.out.cl.ds (by have := HR.out.live.works; omega) (by rw [HR.out.live.fuse]; decide) (by decide) (HSE.out wr HR.out.cl.bel) HUS.out).mono ?_
        rintro e w8 ⟨rfl, S8, h8, o8, s8⟩
        clear q0 q1 q5 hix
        by_cases hfit : R < (s.used : Int) + z.b.length
        · have ha := live_app_no HR.out.live (n := [108, 111, 103]) (by decide) hfit
          rw [ha] at h8
          rw [ha, show enoOf 6 = eno 6 from if_neg (by decide)]
          have C8 : Hid (Cl w w8 w.heap.size d S8 s) := Lib.hid (HR.out.cl.step h8 o8 s8)
          have HLV : Hid (Live s R (2 * k + 1)) := Lib.hid (live_mono HR.out.live (Nat.le_succ _))
          clear ha h8 o8 s8
          obtain ⟨q0, q1, q5⟩ := HCW.out w8 C8.out.bel
          have hwr : IntKind.i64.wrap ((s.used : Int) + (z.b.length : Int)) = (s.used : Int) + (z.b.length : Int) := IntWalk.i64_in _ (by have h1 := HZB.out; have h2 := HLV.out.used; omega)
          have hf2 : ¬ (s.used : Int) + (z.b.length : Int) ≤ R := by omega
          have hus2 : ¬ R < (s.used : Int) := by have := HLV.out.used; omega
          have HKD := Lib.hid (khand_eno w8.drew 6 (by decide) (HG.out.kb (C8.out.bel.drew)))
          clear q0 q1
          go_wp2_with fail
          try simp only [List.append]
          refine wp_region_noPanic ?_
          refine wp_region_held_drew (S := (fun W => W.cell? ⟨eb, eo + k * 6 + 5, none⟩ = some (.slice z.q z.b.length z.c))) (by kernel_rfl) q5 (fun hHeld => ?_)
          refine wpAnyH_take (i := 0) (v := ?_) (by simp only [List.getElem?_toArray, List.getElem?_cons_zero]; rfl) (by kernel_rfl) (by kernel_rfl) (by kernel_rfl) (fun _ _ _ h => h) (Or.inl ⟨by rfl, ?_⟩) (by assumption) ?_
          rotate_left
          · intro w hSw
            try dsimp only at hSw
            go_simp
            try with_reducible rfl
          try simp only [Act.put, List.setIfInBounds_toArray, List.set_cons_zero, List.set_cons_succ]
          refine wpAnyH_take (i := 1) (v := (.bool false)) (by simp only [List.getElem?_toArray, List.getElem?_cons_succ, List.getElem?_cons_zero]; rfl) (by kernel_rfl) (by kernel_rfl) (by kernel_rfl) (fun _ _ _ h => h) (Or.inl ⟨by rfl, ?_⟩) (by assumption) ?_
          · intro w hSw
            try dsimp only at hSw
            go_simp
          try simp only [Act.put, List.setIfInBounds_toArray, List.set_cons_zero, List.set_cons_succ]
          refine wpAnyH_take (i := 2) (v := ?_) (by simp only [List.getElem?_toArray, List.getElem?_cons_succ, List.getElem?_cons_zero]; rfl) (by kernel_rfl) (by kernel_rfl) (by kernel_rfl) (fun _ _ _ h => h) (Or.inl ⟨by rfl, ?_⟩) (by assumption) ?_
          rotate_left
          · intro w hSw
            try dsimp only at hSw
            go_simp
            try with_reducible rfl
          try simp only [Act.put, List.setIfInBounds_toArray, List.set_cons_zero, List.set_cons_succ]
          refine wpAnyH_take (i := 3) (v := ?_) (by simp only [List.getElem?_toArray, List.getElem?_cons_succ, List.getElem?_cons_zero]; rfl) (by kernel_rfl) (by kernel_rfl) (by kernel_rfl) (fun _ _ _ h => h) (Or.inl ⟨by rfl, ?_⟩) (by assumption) ?_
          rotate_left
          · intro w hSw
            try dsimp only at hSw
            go_simp
            try with_reducible rfl
          try simp only [Act.put, List.setIfInBounds_toArray, List.set_cons_zero, List.set_cons_succ]
          refine wpAnyH_take (i := 4) (v := ?_) (by simp only [List.getElem?_toArray, List.getElem?_cons_succ, List.getElem?_cons_zero]; rfl) (by kernel_rfl) (by kernel_rfl) (by kernel_rfl) (fun _ _ _ h => h) (Or.inl ⟨by rfl, ?_⟩) (by assumption) ?_
          rotate_left
          · intro w hSw
            try dsimp only at hSw
            go_simp
            try with_reducible rfl
          try simp only [Act.put, List.setIfInBounds_toArray, List.set_cons_zero, List.set_cons_succ]
          refine wpAnyH_take (i := 5) (v := ?_) (by simp only [List.getElem?_toArray, List.getElem?_cons_succ, List.getElem?_cons_zero]; rfl) (by kernel_rfl) (by kernel_rfl) (by kernel_rfl) (fun _ _ _ h => h) (Or.inl ⟨by rfl, ?_⟩) (by assumption) ?_
          rotate_left
          · intro w hSw
            try dsimp only at hSw
            go_simp
            try with_reducible rfl
          try simp only [Act.put, List.setIfInBounds_toArray, List.set_cons_zero, List.set_cons_succ]
          refine wpAnyH_take (i := 6) (v := ?_) (by simp only [List.getElem?_toArray, List.getElem?_cons_succ, List.getElem?_cons_zero]; rfl) (by kernel_rfl) (by kernel_rfl) (by kernel_rfl) (fun _ _ _ h => h) (Or.inl ⟨by rfl, ?_⟩) (by assumption) ?_
          rotate_left
          · intro w hSw
            try dsimp only at hSw
            go_simp
            try with_reducible rfl
          try simp only [Act.put, List.setIfInBounds_toArray, List.set_cons_zero, List.set_cons_succ]
          refine wpAnyH_take (i := 7) (v := ?_) (by simp only [List.getElem?_toArray, List.getElem?_cons_succ, List.getElem?_cons_zero]; rfl) (by kernel_rfl) (by kernel_rfl) (by kernel_rfl) (fun _ _ _ h => h) (Or.inl ⟨by rfl, ?_⟩) (by assumption) ?_
          rotate_left
          · intro w hSw
            try dsimp only at hSw
            go_simp
            try with_reducible rfl
          try simp only [Act.put, List.setIfInBounds_toArray, List.set_cons_zero, List.set_cons_succ]
          refine wpAnyH_take (i := 8) (v := ?_) (by simp only [List.getElem?_toArray, List.getElem?_cons_succ, List.getElem?_cons_zero]; rfl) (by kernel_rfl) (by kernel_rfl) (by kernel_rfl) (fun _ _ _ h => h) (Or.inl ⟨by rfl, ?_⟩) (by assumption) ?_
          rotate_left
          · intro w hSw
            try dsimp only at hSw
            go_simp
            try with_reducible rfl
          try simp only [Act.put, List.setIfInBounds_toArray, List.set_cons_zero, List.set_cons_succ]
          refine wpAnyH_take (i := 9) (v := ?_) (by simp only [List.getElem?_toArray, List.getElem?_cons_succ, List.getElem?_cons_zero]; rfl) (by kernel_rfl) (by kernel_rfl) (by kernel_rfl) (fun _ _ _ h => h) (Or.inl ⟨by rfl, ?_⟩) (by assumption) ?_
          rotate_left
          · intro w hSw
            try dsimp only at hSw
            go_simp
            try with_reducible rfl
          try simp only [Act.put, List.setIfInBounds_toArray, List.set_cons_zero, List.set_cons_succ]
          refine wpAnyH_take (i := 10) (v := ?_) (by simp only [List.getElem?_toArray, List.getElem?_cons_succ, List.getElem?_cons_zero]; rfl) (by kernel_rfl) (by kernel_rfl) (by kernel_rfl) (fun _ _ _ h => h) (Or.inl ⟨by rfl, ?_⟩) (by assumption) ?_
          rotate_left
          · intro w hSw
            try dsimp only at hSw
            go_simp
            try with_reducible rfl
          try simp only [Act.put, List.setIfInBounds_toArray, List.set_cons_zero, List.set_cons_succ]
          refine wpAnyH_take (i := 11) (v := (.bool false)) (by simp only [List.getElem?_toArray, List.getElem?_cons_succ, List.getElem?_cons_zero]; rfl) (by kernel_rfl) (by kernel_rfl) (by kernel_rfl) (fun _ _ _ h => h) (Or.inl ⟨by rfl, ?_⟩) (by assumption) ?_
          · intro w hSw
            try dsimp only at hSw
            go_simp
          try simp only [Act.put, List.setIfInBounds_toArray, List.set_cons_zero, List.set_cons_succ]
          refine wpAnyH_take (i := 12) (v := (.bool false)) (by simp only [List.getElem?_toArray, List.getElem?_cons_succ, List.getElem?_cons_zero]; rfl) (by kernel_rfl) (by kernel_rfl) (by kernel_rfl) (fun _ _ _ h => h) (Or.inl ⟨by rfl, ?_⟩) (by assumption) ?_
          · intro w hSw
            try dsimp only at hSw
            go_simp
          try simp only [Act.put, List.setIfInBounds_toArray, List.set_cons_zero, List.set_cons_succ]
          refine wpAnyH_take (i := 13) (v := ?_) (by simp only [List.getElem?_toArray, List.getElem?_cons_succ, List.getElem?_cons_zero]; rfl) (by kernel_rfl) (by kernel_rfl) (by kernel_rfl) (fun _ _ _ h => h) (Or.inl ⟨by rfl, ?_⟩) (by assumption) ?_
          rotate_left
          · intro w hSw
            try dsimp only at hSw
            go_simp
            try with_reducible rfl
          try simp only [Act.put, List.setIfInBounds_toArray, List.set_cons_zero, List.set_cons_succ]
          refine wpAnyH_take (i := 14) (v := ?_) (by simp only [List.getElem?_toArray, List.getElem?_cons_succ, List.getElem?_cons_zero]; rfl) (by kernel_rfl) (by kernel_rfl) (by kernel_rfl) (fun _ _ _ h => h) (Or.inl ⟨by rfl, ?_⟩) (by assumption) ?_
          rotate_left
          · intro w hSw
            try dsimp only at hSw
            go_simp
            try with_reducible rfl
          try simp only [Act.put, List.setIfInBounds_toArray, List.set_cons_zero, List.set_cons_succ]
          refine wpAnyH_take (i := 15) (v := (.bool true)) (by simp only [List.getElem?_toArray, List.getElem?_cons_succ, List.getElem?_cons_zero]; rfl) (by kernel_rfl) (by kernel_rfl) (by kernel_rfl) (fun _ _ _ h => h) (Or.inl ⟨by rfl, ?_⟩) (by assumption) ?_
          · intro w hSw
            try dsimp only at hSw
            go_simp
          try simp only [Act.put, List.setIfInBounds_toArray, List.set_cons_zero, List.set_cons_succ]
          refine wpAnyH_take (i := 16) (v := ?_) (by simp only [List.getElem?_toArray, List.getElem?_cons_succ, List.getElem?_cons_zero]; rfl) (by kernel_rfl) (by kernel_rfl) (by kernel_rfl) (fun _ _ _ h => h) (Or.inl ⟨by rfl, ?_⟩) (by assumption) ?_
          rotate_left
          · intro w hSw
            try dsimp only at hSw
            go_simp
            try with_reducible rfl
          try simp only [Act.put, List.setIfInBounds_toArray, List.set_cons_zero, List.set_cons_succ]
          refine wpAnyH_take (i := 17) (v := ?_) (by simp only [List.getElem?_toArray, List.getElem?_cons_succ, List.getElem?_cons_zero]; rfl) (by kernel_rfl) (by kernel_rfl) (by kernel_rfl) (fun _ _ _ h => h) (Or.inl ⟨by rfl, ?_⟩) (by assumption) ?_
          rotate_left
          · intro w hSw
            try dsimp only at hSw
            go_simp
            try with_reducible rfl
          try simp only [Act.put, List.setIfInBounds_toArray, List.set_cons_zero, List.set_cons_succ]
          refine wpAnyH_ready (rs := [18]) (by kernel_rfl) (by simp) ?_
          refine AllReadyH.cons (by simp only [List.getElem?_toArray, List.getElem?_cons_succ, List.getElem?_cons_zero]; rfl) (fun K hK => ?_) AllReadyH.nil
          go_simp
          refine HKD.out.mono ?_
          rintro e w9 ⟨rfl, b9⟩
          have C9 := Lib.hid (C8.out.kb (W' := w9) ⟨b9.os, b9.tape, b9.output, b9.size, b9.block⟩)
          obtain ⟨_, _, q9⟩ := HCW.out w9 C9.out.bel
          have HU9 := Lib.hid (used_ds2 w9 _ d S8 s C9.out.ds)
          rw [HLV.out.dead] at HU9
          simp only [Bool.false_eq_true, if_false] at HU9
          clear b9
          go_wp2_with fail
          refine hK.out _ _ q9 (fun hHeld => ?_)
          clear hK K
          try simp only [Act.put, List.setIfInBounds_toArray, List.set_cons_zero, List.set_cons_succ]
          refine wpAnyH_take (i := 19) (v := (.bool false)) (by simp only [List.getElem?_toArray, List.getElem?_cons_succ, List.getElem?_cons_zero]; rfl) (by kernel_rfl) (by kernel_rfl) (by kernel_rfl) (fun _ _ _ h => h) (Or.inl ⟨by rfl, ?_⟩) (by assumption) ?_
          · intro w hSw
            try dsimp only at hSw
            go_simp
          try simp only [Act.put, List.setIfInBounds_toArray, List.set_cons_zero, List.set_cons_succ]
          refine wpAnyH_take (i := 20) (v := ?_) (by simp only [List.getElem?_toArray, List.getElem?_cons_succ, List.getElem?_cons_zero]; rfl) (by kernel_rfl) (by kernel_rfl) (by kernel_rfl) (fun _ _ _ h => h) (Or.inl ⟨by rfl, ?_⟩) (by assumption) ?_
          rotate_left
          · intro w hSw
            try dsimp only at hSw
            go_simp
            try with_reducible rfl
          try simp only [Act.put, List.setIfInBounds_toArray, List.set_cons_zero, List.set_cons_succ]
          refine wpAnyH_take (i := 21) (v := ?_) (by simp only [List.getElem?_toArray, List.getElem?_cons_succ, List.getElem?_cons_zero]; rfl) (by kernel_rfl) (by kernel_rfl) (by kernel_rfl) (fun _ _ _ h => h) (Or.inl ⟨by rfl, ?_⟩) (by assumption) ?_
          rotate_left
          · intro w hSw
            try dsimp only at hSw
            go_simp
            try with_reducible rfl
          try simp only [Act.put, List.setIfInBounds_toArray, List.set_cons_zero, List.set_cons_succ]
          refine wpAnyH_take (i := 23) (v := ?_) (by simp only [List.getElem?_toArray, List.getElem?_cons_succ, List.getElem?_cons_zero]; rfl) (by kernel_rfl) (by kernel_rfl) (by kernel_rfl) (fun _ _ _ h => h) (Or.inl ⟨by rfl, ?_⟩) (by assumption) ?_
          rotate_left
          · intro w hSw
            try dsimp only at hSw
            go_simp
            try with_reducible rfl
          try simp only [Act.put, List.setIfInBounds_toArray, List.set_cons_zero, List.set_cons_succ]
          refine wpAnyH_ready (rs := [22]) (by kernel_rfl) (by simp) ?_
          refine AllReadyH.cons (by simp only [List.getElem?_toArray, List.getElem?_cons_succ, List.getElem?_cons_zero]; rfl) (fun K hK => ?_) AllReadyH.nil
          go_simp
          refine HU9.out.mono ?_
          rintro e w' ⟨rfl, rfl⟩
          go_wp2_with fail
          refine hK.out _ _ q9 (fun hHeld => ?_)
          clear hK K
          try simp only [Act.put, List.setIfInBounds_toArray, List.set_cons_zero, List.set_cons_succ]
          refine wpAnyH_take (i := 24) (v := (.bool false)) (by simp only [List.getElem?_toArray, List.getElem?_cons_succ, List.getElem?_cons_zero]; rfl) (by kernel_rfl) (by kernel_rfl) (by kernel_rfl) (fun _ _ _ h => h) (Or.inl ⟨by rfl, ?_⟩) (by assumption) ?_
          · intro w hSw
            try dsimp only at hSw
            go_simp
          try simp only [Act.put, List.setIfInBounds_toArray, List.set_cons_zero, List.set_cons_succ]
          refine wpAnyH_take (i := 25) (v := (.bool false)) (by simp only [List.getElem?_toArray, List.getElem?_cons_succ, List.getElem?_cons_zero]; rfl) (by kernel_rfl) (by kernel_rfl) (by kernel_rfl) (fun _ _ _ h => h) (Or.inl ⟨by rfl, ?_⟩) (by assumption) ?_
          · intro w hSw
            try dsimp only at hSw
            go_simp
          try simp only [Act.put, List.setIfInBounds_toArray, List.set_cons_zero, List.set_cons_succ]
          refine wpAnyH_take (i := 26) (v := (.bool false)) (by simp only [List.getElem?_toArray, List.getElem?_cons_succ, List.getElem?_cons_zero]; rfl) (by kernel_rfl) (by kernel_rfl) (by kernel_rfl) (fun _ _ _ h => h) (Or.inl ⟨by rfl, ?_⟩) (by assumption) ?_
          · intro w hSw
            try dsimp only at hSw
            go_simp
          try simp only [Act.put, List.setIfInBounds_toArray, List.set_cons_zero, List.set_cons_succ]
          refine wpAnyH_take (i := 27) (v := (.bool false)) (by simp only [List.getElem?_toArray, List.getElem?_cons_succ, List.getElem?_cons_zero]; rfl) (by kernel_rfl) (by kernel_rfl) (by kernel_rfl) (fun _ _ _ h => h) (Or.inl ⟨by rfl, ?_⟩) (by assumption) ?_
          · intro w hSw
            try dsimp only at hSw
            go_simp
          try simp only [Act.put, List.setIfInBounds_toArray, List.set_cons_zero, List.set_cons_succ]
          refine wpAnyH_take (i := 28) (v := ?_) (by simp only [List.getElem?_toArray, List.getElem?_cons_succ, List.getElem?_cons_zero]; rfl) (by kernel_rfl) (by kernel_rfl) (by kernel_rfl) (fun _ _ _ h => h) (Or.inl ⟨by rfl, ?_⟩) (by assumption) ?_
          rotate_left
          · intro w hSw
            try dsimp only at hSw
            go_simp
            try with_reducible rfl
          try simp only [Act.put, List.setIfInBounds_toArray, List.set_cons_zero, List.set_cons_succ]
          refine wpAnyH_take (i := 29) (v := ?_) (by simp only [List.getElem?_toArray, List.getElem?_cons_succ, List.getElem?_cons_zero]; rfl) (by kernel_rfl) (by kernel_rfl) (by kernel_rfl) (fun _ _ _ h => h) (Or.inl ⟨by rfl, ?_⟩) (by assumption) ?_
          rotate_left
          · intro w hSw
            try dsimp only at hSw
            go_simp
            try with_reducible rfl
          try simp only [Act.put, List.setIfInBounds_toArray, List.set_cons_zero, List.set_cons_succ]
          refine wpAnyH_take (i := 31) (v := ?_) (by simp only [List.getElem?_toArray, List.getElem?_cons_succ, List.getElem?_cons_zero]; rfl) (by kernel_rfl) (by kernel_rfl) (by kernel_rfl) (fun _ _ _ h => h) (Or.inl ⟨by rfl, ?_⟩) (by assumption) ?_
          rotate_left
          · intro w hSw
            try dsimp only at hSw
            go_simp
            try with_reducible rfl
          try simp only [Act.put, List.setIfInBounds_toArray, List.set_cons_zero, List.set_cons_succ]
          refine wpAnyH_ready (rs := [30]) (by kernel_rfl) (by simp) ?_
          refine AllReadyH.cons (by simp only [List.getElem?_toArray, List.getElem?_cons_succ, List.getElem?_cons_zero]; rfl) (fun K hK => ?_) AllReadyH.nil
          go_simp
          refine HU9.out.mono ?_
          rintro e w' ⟨rfl, rfl⟩
          go_wp2_with fail
          refine hK.out _ _ q9 (fun hHeld => ?_)
          clear hK K
          try simp only [Act.put, List.setIfInBounds_toArray, List.set_cons_zero, List.set_cons_succ]
          refine wpAnyH_take (i := 32) (v := (.bool false)) (by simp only [List.getElem?_toArray, List.getElem?_cons_succ, List.getElem?_cons_zero]; rfl) (by kernel_rfl) (by kernel_rfl) (by kernel_rfl) (fun _ _ _ h => h) (Or.inl ⟨by rfl, ?_⟩) (by assumption) ?_
          · intro w hSw
            try dsimp only at hSw
            go_simp
          try simp only [Act.put, List.setIfInBounds_toArray, List.set_cons_zero, List.set_cons_succ]
          refine wpAnyH_take (i := 33) (v := (.bool false)) (by simp only [List.getElem?_toArray, List.getElem?_cons_succ, List.getElem?_cons_zero]; rfl) (by kernel_rfl) (by kernel_rfl) (by kernel_rfl) (fun _ _ _ h => h) (Or.inl ⟨by rfl, ?_⟩) (by assumption) ?_
          · intro w hSw
            try dsimp only at hSw
            go_simp
          try simp only [Act.put, List.setIfInBounds_toArray, List.set_cons_zero, List.set_cons_succ]
          refine wpAnyH_done (by kernel_rfl) ?_ _
          refine NoPanic.normal ?_
          by_cases hrm : z.what.tmod 5 = 0
          · go_wp2_with fail
            refine (names_to w9 _ d S8 s C9.out.ds (by have := HLV.out.works; omega)).mono ?_
            rintro e x1 ⟨v3, rfl, o3, b3⟩
            rw [HLV.out.dead] at o3
            simp only [Bool.false_eq_true, if_false] at o3
            obtain ⟨p3, c3, rfl⟩ := own_slice o3
            have D1 := Lib.hid (C9.out.kb b3)
            clear b3 o3
            cases hnm : nms (s).files with
            | nil =>
              go_wp2_with fail
              exact ⟨⟨k + 1, S8, s, by have := HKN.out; omega, by have := HKN.out; omega, by go_num, Lib.hid ⟨D1.out, live_mono HLV.out (by omega)⟩⟩, by simp [intOf]; have := HKN.out; omega⟩
            | cons a r =>
              have hlen : ((a :: r).length : Int) = (r.length : Int) + 1 := by simp
              have hpos : 0 < (r.length : Int) + 1 := by omega
              have HAL : Hid (a.length ≤ 20) := Lib.hid (by
                have h1 : a ∈ nms (s).files := by rw [hnm]; exact List.mem_cons_self
                obtain ⟨q, hq, rfl⟩ := List.mem_map.1 h1
                exact HLV.out.nm q hq)
              have HNM := Lib.hid hnm
              clear hnm
              go_wp2_with fail
              refine (names_to x1 _ d S8 s D1.out.ds (by have := HLV.out.works; omega)).mono ?_
              rintro e x2 ⟨v4, rfl, o4, b4⟩
              rw [HLV.out.dead] at o4
              simp only [Bool.false_eq_true, if_false] at o4
              rw [HNM.out] at o4
              obtain ⟨p4, c4, rfl⟩ := own_slice o4
              have D2 := Lib.hid (D1.out.kb b4)
              obtain ⟨g4, rfl, hc4⟩ := row_first D2.out (RBes.new o4 D1.out)
              clear b4 o4
              go_wp2_with fail
              refine (remove_to x2 _ d S8 s a D2.out.ds (by have := HLV.out.works; omega) (by rw [HLV.out.fuse]; decide) (Nat.le_trans HAL.out (by decide))).mono ?_
              rintro e x3 ⟨rfl, S9, h9, o9, s9⟩
              have D3 := Lib.hid (D2.out.step h9 o9 s9)
              have HL3 := Lib.hid (live_rem HLV.out (ds_asc D2.out.ds) a)
              clear h9 o9 s9
              go_wp2_with fail
              exact ⟨⟨k + 1, S9, _, by have := HKN.out; omega, by have := HKN.out; omega, by go_num, Lib.hid ⟨D3.out, live_mono HL3.out (by omega)⟩⟩, by simp [intOf]; have := HKN.out; omega⟩
          · go_wp2_with fail
            exact ⟨⟨k + 1, S8, s, by have := HKN.out; omega, by have := HKN.out; omega, by go_num, Lib.hid ⟨C9.out, live_mono HLV.out (by omega)⟩⟩, by simp [intOf]; have := HKN.out; omega⟩
        · obtain ⟨a1, a2, a3⟩ := live_app_yes HR.out.live (ds_asc HR.out.cl.ds) (n := [108, 111, 103]) (by decide) hfit
          rw [a1, show enoOf 0 = .nilIface from rfl]
          generalize (s.append [108, 111, 103] z.b).2 = s2 at *
          have C8 : Hid (Cl w w8 w.heap.size d S8 s2) := Lib.hid (HR.out.cl.step h8 o8 s8)
          have HLV : Hid (Live s2 R (2 * k + 1)) := Lib.hid a2
          clear a1 a2 h8 o8 s8
          obtain ⟨q0, q1, q5⟩ := HCW.out w8 C8.out.bel
          have hwr : IntKind.i64.wrap ((s.used : Int) + (z.b.length : Int)) = (s.used : Int) + (z.b.length : Int) := IntWalk.i64_in _ (by have h1 := HZB.out; have h2 := HLV.out.used; omega)
          have hf2 : (s.used : Int) + (z.b.length : Int) ≤ R := by omega
          have hus2 : ¬ R < (s2.used : Int) := by have := HLV.out.used; omega
          have HU8 : Hid (∀ q, Calls Tryd.prog 34 #[.pointer (some ⟨d,0,none⟩)] (w8.drewN q) fun e w' => e = .returned (.int .i64 s2.used) ∧ w8.drewN q = w') := Lib.hid (fun q => by
            have h1 := used_ds2 (w8.drewN q) _ d S8 s2 (C8.out.ds.kb ⟨rfl, rfl, rfl, Nat.le_refl _, fun _ _ => rfl⟩)
            rw [HLV.out.dead] at h1
            simp only [Bool.false_eq_true, if_false] at h1
            exact h1)
          clear a3 hfit q1
          go_wp2_with fail
          go_quiet ((go_at_call 34; exact Calls.quiet_of_same ((HU8.out _).mono fun _ _ h => ⟨h.1, h.2.symm⟩)))
          have C9 : Hid (Cl w (w8.drewN nq) w.heap.size d S8 s2) := Lib.hid (C8.out.kb ⟨rfl, rfl, rfl, Nat.le_refl _, fun _ _ => rfl⟩)
          clear q0 q5 HU8 C8
          generalize w8.drewN nq = w9 at *
          obtain ⟨q0, _, _⟩ := HCW.out w9 C9.out.bel
          by_cases hrm : z.what.tmod 5 = 0
          · go_wp2_with fail
            refine (names_to w9 _ d S8 s2 C9.out.ds (by have := HLV.out.works; omega)).mono ?_
            rintro e x1 ⟨v3, rfl, o3, b3⟩
            rw [HLV.out.dead] at o3
            simp only [Bool.false_eq_true, if_false] at o3
            obtain ⟨p3, c3, rfl⟩ := own_slice o3
            have D1 := Lib.hid (C9.out.kb b3)
            clear b3 o3
            cases hnm : nms (s2).files with
            | nil =>
              go_wp2_with fail
              exact ⟨⟨k + 1, S8, s2, by have := HKN.out; omega, by have := HKN.out; omega, by go_num, Lib.hid ⟨D1.out, live_mono HLV.out (by omega)⟩⟩, by simp [intOf]; have := HKN.out; omega⟩
            | cons a r =>
              have hlen : ((a :: r).length : Int) = (r.length : Int) + 1 := by simp
              have hpos : 0 < (r.length : Int) + 1 := by omega
              have HAL : Hid (a.length ≤ 20) := Lib.hid (by
                have h1 : a ∈ nms (s2).files := by rw [hnm]; exact List.mem_cons_self
                obtain ⟨q, hq, rfl⟩ := List.mem_map.1 h1
                exact HLV.out.nm q hq)
              have HNM := Lib.hid hnm
              clear hnm
              go_wp2_with fail
              refine (names_to x1 _ d S8 s2 D1.out.ds (by have := HLV.out.works; omega)).mono ?_
              rintro e x2 ⟨v4, rfl, o4, b4⟩
              rw [HLV.out.dead] at o4
              simp only [Bool.false_eq_true, if_false] at o4
              rw [HNM.out] at o4
              obtain ⟨p4, c4, rfl⟩ := own_slice o4
              have D2 := Lib.hid (D1.out.kb b4)
              obtain ⟨g4, rfl, hc4⟩ := row_first D2.out (RBes.new o4 D1.out)
              clear b4 o4
              go_wp2_with fail
              refine (remove_to x2 _ d S8 s2 a D2.out.ds (by have := HLV.out.works; omega) (by rw [HLV.out.fuse]; decide) (Nat.le_trans HAL.out (by decide))).mono ?_
              rintro e x3 ⟨rfl, S9, h9, o9, s9⟩
              have D3 := Lib.hid (D2.out.step h9 o9 s9)
              have HL3 := Lib.hid (live_rem HLV.out (ds_asc D2.out.ds) a)
              clear h9 o9 s9
              go_wp2_with fail
              exact ⟨⟨k + 1, S9, _, by have := HKN.out; omega, by have := HKN.out; omega, by go_num, Lib.hid ⟨D3.out, live_mono HL3.out (by omega)⟩⟩, by simp [intOf]; have := HKN.out; omega⟩
          · go_wp2_with fail
            exact ⟨⟨k + 1, S8, s2, by have := HKN.out; omega, by have := HKN.out; omega, by go_num, Lib.hid ⟨C9.out, live_mono HLV.out (by omega)⟩⟩, by simp [intOf]; have := HKN.out; omega⟩
      · have HP := Lib.hid (pick_to wr z.name 4 3 (by decide) (by decide) hm)
        clear hm
        go_wp2_with fail
        refine HP.out.mono ?_
        rintro e w' ⟨rfl, rfl⟩
        clear HP
        have hix : (Instr.index 80 (.agg #[.string ⟨#[97]⟩, .string ⟨#[98]⟩, .string ⟨#[108, 111, 103]⟩, .string ⟨#[114, 111, 111, 116]⟩]) (.int .i64 3)).run Tryd.prog wr = .ok (.string ⟨#[114, 111, 111, 116]⟩) wr := index_four _ rfl 3 wr (by decide) (by decide)
        go_wp2_with fail
        refine (append_nb wr _ d S s [114, 111, 111, 116] (.slice z.q z.b.length z.c) z.b HR.out.cl.ds (by have := HR.out.live.works; omega) (by rw [HR.out.live.fuse]; decide) (by decide) (HSE.out wr HR.out.cl.bel) HUS.out).mono ?_
        rintro e w8 ⟨rfl, S8, h8, o8, s8⟩
        clear q0 q1 q5 hix
        by_cases hfit : R < (s.used : Int) + z.b.length
        · have ha := live_app_no HR.out.live (n := [114, 111, 111, 116]) (by decide) hfit
          rw [ha] at h8
          rw [ha, show enoOf 6 = eno 6 from if_neg (by decide)]
          have C8 : Hid (Cl w w8 w.heap.size d S8 s) := Lib.hid (HR.out.cl.step h8 o8 s8)
          have HLV : Hid (Live s R (2 * k + 1)) := Lib.hid (live_mono HR.out.live (Nat.le_succ _))
          clear ha h8 o8 s8
          obtain ⟨q0, q1, q5⟩ := HCW.out w8 C8.out.bel
          have hwr : IntKind.i64.wrap ((s.used : Int) + (z.b.length : Int)) = (s.used : Int) + (z.b.length : Int) := IntWalk.i64_in _ (by have h1 := HZB.out; have h2 := HLV.out.used; omega)
          have hf2 : ¬ (s.used : Int) + (z.b.length : Int) ≤ R := by omega
          have hus2 : ¬ R < (s.used : Int) := by have := HLV.out.used; omega
          have HKD := Lib.hid (khand_eno w8.drew 6 (by decide) (HG.out.kb (C8.out.bel.drew)))
          clear q0 q1
          go_wp2_with fail
          try simp only [List.append]
          refine wp_region_noPanic ?_
          refine wp_region_held_drew (S := (fun W => W.cell? ⟨eb, eo + k * 6 + 5, none⟩ = some (.slice z.q z.b.length z.c))) (by kernel_rfl) q5 (fun hHeld => ?_)
          refine wpAnyH_take (i := 0) (v := ?_) (by simp only [List.getElem?_toArray, List.getElem?_cons_zero]; rfl) (by kernel_rfl) (by kernel_rfl) (by kernel_rfl) (fun _ _ _ h => h) (Or.inl ⟨by rfl, ?_⟩) (by assumption) ?_
          rotate_left
          · intro w hSw
            try dsimp only at hSw
            go_simp
            try with_reducible rfl
          try simp only [Act.put, List.setIfInBounds_toArray, List.set_cons_zero, List.set_cons_succ]
          refine wpAnyH_take (i := 1) (v := (.bool false)) (by simp only [List.getElem?_toArray, List.getElem?_cons_succ, List.getElem?_cons_zero]; rfl) (by kernel_rfl) (by kernel_rfl) (by kernel_rfl) (fun _ _ _ h => h) (Or.inl ⟨by rfl, ?_⟩) (by assumption) ?_
          · intro w hSw
            try dsimp only at hSw
            go_simp
          try simp only [Act.put, List.setIfInBounds_toArray, List.set_cons_zero, List.set_cons_succ]
          refine wpAnyH_take (i := 2) (v := ?_) (by simp only [List.getElem?_toArray, List.getElem?_cons_succ, List.getElem?_cons_zero]; rfl) (by kernel_rfl) (by kernel_rfl) (by kernel_rfl) (fun _ _ _ h => h) (Or.inl ⟨by rfl, ?_⟩) (by assumption) ?_
          rotate_left
          · intro w hSw
            try dsimp only at hSw
            go_simp
            try with_reducible rfl
          try simp only [Act.put, List.setIfInBounds_toArray, List.set_cons_zero, List.set_cons_succ]
          refine wpAnyH_take (i := 3) (v := ?_) (by simp only [List.getElem?_toArray, List.getElem?_cons_succ, List.getElem?_cons_zero]; rfl) (by kernel_rfl) (by kernel_rfl) (by kernel_rfl) (fun _ _ _ h => h) (Or.inl ⟨by rfl, ?_⟩) (by assumption) ?_
          rotate_left
          · intro w hSw
            try dsimp only at hSw
            go_simp
            try with_reducible rfl
          try simp only [Act.put, List.setIfInBounds_toArray, List.set_cons_zero, List.set_cons_succ]
          refine wpAnyH_take (i := 4) (v := ?_) (by simp only [List.getElem?_toArray, List.getElem?_cons_succ, List.getElem?_cons_zero]; rfl) (by kernel_rfl) (by kernel_rfl) (by kernel_rfl) (fun _ _ _ h => h) (Or.inl ⟨by rfl, ?_⟩) (by assumption) ?_
          rotate_left
          · intro w hSw
            try dsimp only at hSw
            go_simp
            try with_reducible rfl
          try simp only [Act.put, List.setIfInBounds_toArray, List.set_cons_zero, List.set_cons_succ]
          refine wpAnyH_take (i := 5) (v := ?_) (by simp only [List.getElem?_toArray, List.getElem?_cons_succ, List.getElem?_cons_zero]; rfl) (by kernel_rfl) (by kernel_rfl) (by kernel_rfl) (fun _ _ _ h => h) (Or.inl ⟨by rfl, ?_⟩) (by assumption) ?_
          rotate_left
          · intro w hSw
            try dsimp only at hSw
            go_simp
            try with_reducible rfl
          try simp only [Act.put, List.setIfInBounds_toArray, List.set_cons_zero, List.set_cons_succ]
          refine wpAnyH_take (i := 6) (v := ?_) (by simp only [List.getElem?_toArray, List.getElem?_cons_succ, List.getElem?_cons_zero]; rfl) (by kernel_rfl) (by kernel_rfl) (by kernel_rfl) (fun _ _ _ h => h) (Or.inl ⟨by rfl, ?_⟩) (by assumption) ?_
          rotate_left
          · intro w hSw
            try dsimp only at hSw
            go_simp
            try with_reducible rfl
          try simp only [Act.put, List.setIfInBounds_toArray, List.set_cons_zero, List.set_cons_succ]
          refine wpAnyH_take (i := 7) (v := ?_) (by simp only [List.getElem?_toArray, List.getElem?_cons_succ, List.getElem?_cons_zero]; rfl) (by kernel_rfl) (by kernel_rfl) (by kernel_rfl) (fun _ _ _ h => h) (Or.inl ⟨by rfl, ?_⟩) (by assumption) ?_
          rotate_left
          · intro w hSw
            try dsimp only at hSw
            go_simp
            try with_reducible rfl
          try simp only [Act.put, List.setIfInBounds_toArray, List.set_cons_zero, List.set_cons_succ]
          refine wpAnyH_take (i := 8) (v := ?_) (by simp only [List.getElem?_toArray, List.getElem?_cons_succ, List.getElem?_cons_zero]; rfl) (by kernel_rfl) (by kernel_rfl) (by kernel_rfl) (fun _ _ _ h => h) (Or.inl ⟨by rfl, ?_⟩) (by assumption) ?_
          rotate_left
          · intro w hSw
            try dsimp only at hSw
            go_simp
            try with_reducible rfl
          try simp only [Act.put, List.setIfInBounds_toArray, List.set_cons_zero, List.set_cons_succ]
          refine wpAnyH_take (i := 9) (v := ?_) (by simp only [List.getElem?_toArray, List.getElem?_cons_succ, List.getElem?_cons_zero]; rfl) (by kernel_rfl) (by kernel_rfl) (by kernel_rfl) (fun _ _ _ h => h) (Or.inl ⟨by rfl, ?_⟩) (by assumption) ?_
          rotate_left
          · intro w hSw
            try dsimp only at hSw
            go_simp
            try with_reducible rfl
          try simp only [Act.put, List.setIfInBounds_toArray, List.set_cons_zero, List.set_cons_succ]
          refine wpAnyH_take (i := 10) (v := ?_) (by simp only [List.getElem?_toArray, List.getElem?_cons_succ, List.getElem?_cons_zero]; rfl) (by kernel_rfl) (by kernel_rfl) (by kernel_rfl) (fun _ _ _ h => h) (Or.inl ⟨by rfl, ?_⟩) (by assumption) ?_
          rotate_left
          · intro w hSw
            try dsimp only at hSw
            go_simp
            try with_reducible rfl
          try simp only [Act.put, List.setIfInBounds_toArray, List.set_cons_zero, List.set_cons_succ]
          refine wpAnyH_take (i := 11) (v := (.bool false)) (by simp only [List.getElem?_toArray, List.getElem?_cons_succ, List.getElem?_cons_zero]; rfl) (by kernel_rfl) (by kernel_rfl) (by kernel_rfl) (fun _ _ _ h => h) (Or.inl ⟨by rfl, ?_⟩) (by assumption) ?_
          · intro w hSw
            try dsimp only at hSw
            go_simp
          try simp only [Act.put, List.setIfInBounds_toArray, List.set_cons_zero, List.set_cons_succ]
          refine wpAnyH_take (i := 12) (v := (.bool false)) (by simp only [List.getElem?_toArray, List.getElem?_cons_succ, List.getElem?_cons_zero]; rfl) (by kernel_rfl) (by kernel_rfl) (by kernel_rfl) (fun _ _ _ h => h) (Or.inl ⟨by rfl, ?_⟩) (by assumption) ?_
          · intro w hSw
            try dsimp only at hSw
            go_simp
          try simp only [Act.put, List.setIfInBounds_toArray, List.set_cons_zero, List.set_cons_succ]
          refine wpAnyH_take (i := 13) (v := ?_) (by simp only [List.getElem?_toArray, List.getElem?_cons_succ, List.getElem?_cons_zero]; rfl) (by kernel_rfl) (by kernel_rfl) (by kernel_rfl) (fun _ _ _ h => h) (Or.inl ⟨by rfl, ?_⟩) (by assumption) ?_
          rotate_left
          · intro w hSw
            try dsimp only at hSw
            go_simp
            try with_reducible rfl
          try simp only [Act.put, List.setIfInBounds_toArray, List.set_cons_zero, List.set_cons_succ]
          refine wpAnyH_take (i := 14) (v := ?_) (by simp only [List.getElem?_toArray, List.getElem?_cons_succ, List.getElem?_cons_zero]; rfl) (by kernel_rfl) (by kernel_rfl) (by kernel_rfl) (fun _ _ _ h => h) (Or.inl ⟨by rfl, ?_⟩) (by assumption) ?_
          rotate_left
          · intro w hSw
            try dsimp only at hSw
            go_simp
            try with_reducible rfl
          try simp only [Act.put, List.setIfInBounds_toArray, List.set_cons_zero, List.set_cons_succ]
          refine wpAnyH_take (i := 15) (v := (.bool true)) (by simp only [List.getElem?_toArray, List.getElem?_cons_succ, List.getElem?_cons_zero]; rfl) (by kernel_rfl) (by kernel_rfl) (by kernel_rfl) (fun _ _ _ h => h) (Or.inl ⟨by rfl, ?_⟩) (by assumption) ?_
          · intro w hSw
            try dsimp only at hSw
            go_simp
          try simp only [Act.put, List.setIfInBounds_toArray, List.set_cons_zero, List.set_cons_succ]
          refine wpAnyH_take (i := 16) (v := ?_) (by simp only [List.getElem?_toArray, List.getElem?_cons_succ, List.getElem?_cons_zero]; rfl) (by kernel_rfl) (by kernel_rfl) (by kernel_rfl) (fun _ _ _ h => h) (Or.inl ⟨by rfl, ?_⟩) (by assumption) ?_
          rotate_left
          · intro w hSw
            try dsimp only at hSw
            go_simp
            try with_reducible rfl
          try simp only [Act.put, List.setIfInBounds_toArray, List.set_cons_zero, List.set_cons_succ]
          refine wpAnyH_take (i := 17) (v := ?_) (by simp only [List.getElem?_toArray, List.getElem?_cons_succ, List.getElem?_cons_zero]; rfl) (by kernel_rfl) (by kernel_rfl) (by kernel_rfl) (fun _ _ _ h => h) (Or.inl ⟨by rfl, ?_⟩) (by assumption) ?_
          rotate_left
          · intro w hSw
            try dsimp only at hSw
            go_simp
            try with_reducible rfl
          try simp only [Act.put, List.setIfInBounds_toArray, List.set_cons_zero, List.set_cons_succ]
          refine wpAnyH_ready (rs := [18]) (by kernel_rfl) (by simp) ?_
          refine AllReadyH.cons (by simp only [List.getElem?_toArray, List.getElem?_cons_succ, List.getElem?_cons_zero]; rfl) (fun K hK => ?_) AllReadyH.nil
          go_simp
          refine HKD.out.mono ?_
          rintro e w9 ⟨rfl, b9⟩
          have C9 := Lib.hid (C8.out.kb (W' := w9) ⟨b9.os, b9.tape, b9.output, b9.size, b9.block⟩)
          obtain ⟨_, _, q9⟩ := HCW.out w9 C9.out.bel
          have HU9 := Lib.hid (used_ds2 w9 _ d S8 s C9.out.ds)
          rw [HLV.out.dead] at HU9
          simp only [Bool.false_eq_true, if_false] at HU9
          clear b9
          go_wp2_with fail
          refine hK.out _ _ q9 (fun hHeld => ?_)
          clear hK K
          try simp only [Act.put, List.setIfInBounds_toArray, List.set_cons_zero, List.set_cons_succ]
          refine wpAnyH_take (i := 19) (v := (.bool false)) (by simp only [List.getElem?_toArray, List.getElem?_cons_succ, List.getElem?_cons_zero]; rfl) (by kernel_rfl) (by kernel_rfl) (by kernel_rfl) (fun _ _ _ h => h) (Or.inl ⟨by rfl, ?_⟩) (by assumption) ?_
          · intro w hSw
            try dsimp only at hSw
            go_simp
          try simp only [Act.put, List.setIfInBounds_toArray, List.set_cons_zero, List.set_cons_succ]
          refine wpAnyH_take (i := 20) (v := ?_) (by simp only [List.getElem?_toArray, List.getElem?_cons_succ, List.getElem?_cons_zero]; rfl) (by kernel_rfl) (by kernel_rfl) (by kernel_rfl) (fun _ _ _ h => h) (Or.inl ⟨by rfl, ?_⟩) (by assumption) ?_
          rotate_left
          · intro w hSw
            try dsimp only at hSw
            go_simp
            try with_reducible rfl
          try simp only [Act.put, List.setIfInBounds_toArray, List.set_cons_zero, List.set_cons_succ]
          refine wpAnyH_take (i := 21) (v := ?_) (by simp only [List.getElem?_toArray, List.getElem?_cons_succ, List.getElem?_cons_zero]; rfl) (by kernel_rfl) (by kernel_rfl) (by kernel_rfl) (fun _ _ _ h => h) (Or.inl ⟨by rfl, ?_⟩) (by assumption) ?_
          rotate_left
          · intro w hSw
            try dsimp only at hSw
            go_simp
            try with_reducible rfl
          try simp only [Act.put, List.setIfInBounds_toArray, List.set_cons_zero, List.set_cons_succ]
          refine wpAnyH_take (i := 23) (v := ?_) (by simp only [List.getElem?_toArray, List.getElem?_cons_succ, List.getElem?_cons_zero]; rfl) (by kernel_rfl) (by kernel_rfl) (by kernel_rfl) (fun _ _ _ h => h) (Or.inl ⟨by rfl, ?_⟩) (by assumption) ?_
          rotate_left
          · intro w hSw
            try dsimp only at hSw
            go_simp
            try with_reducible rfl
          try simp only [Act.put, List.setIfInBounds_toArray, List.set_cons_zero, List.set_cons_succ]
          refine wpAnyH_ready (rs := [22]) (by kernel_rfl) (by simp) ?_
          refine AllReadyH.cons (by simp only [List.getElem?_toArray, List.getElem?_cons_succ, List.getElem?_cons_zero]; rfl) (fun K hK => ?_) AllReadyH.nil
          go_simp
          refine HU9.out.mono ?_
          rintro e w' ⟨rfl, rfl⟩
          go_wp2_with fail
          refine hK.out _ _ q9 (fun hHeld => ?_)
          clear hK K
          try simp only [Act.put, List.setIfInBounds_toArray, List.set_cons_zero, List.set_cons_succ]
          refine wpAnyH_take (i := 24) (v := (.bool false)) (by simp only [List.getElem?_toArray, List.getElem?_cons_succ, List.getElem?_cons_zero]; rfl) (by kernel_rfl) (by kernel_rfl) (by kernel_rfl) (fun _ _ _ h => h) (Or.inl ⟨by rfl, ?_⟩) (by assumption) ?_
          · intro w hSw
            try dsimp only at hSw
            go_simp
          try simp only [Act.put, List.setIfInBounds_toArray, List.set_cons_zero, List.set_cons_succ]
          refine wpAnyH_take (i := 25) (v := (.bool false)) (by simp only [List.getElem?_toArray, List.getElem?_cons_succ, List.getElem?_cons_zero]; rfl) (by kernel_rfl) (by kernel_rfl) (by kernel_rfl) (fun _ _ _ h => h) (Or.inl ⟨by rfl, ?_⟩) (by assumption) ?_
          · intro w hSw
            try dsimp only at hSw
            go_simp
          try simp only [Act.put, List.setIfInBounds_toArray, List.set_cons_zero, List.set_cons_succ]
          refine wpAnyH_take (i := 26) (v := (.bool false)) (by simp only [List.getElem?_toArray, List.getElem?_cons_succ, List.getElem?_cons_zero]; rfl) (by kernel_rfl) (by kernel_rfl) (by kernel_rfl) (fun _ _ _ h => h) (Or.inl ⟨by rfl, ?_⟩) (by assumption) ?_
          · intro w hSw
            try dsimp only at hSw
            go_simp
          try simp only [Act.put, List.setIfInBounds_toArray, List.set_cons_zero, List.set_cons_succ]
          refine wpAnyH_take (i := 27) (v := (.bool false)) (by simp only [List.getElem?_toArray, List.getElem?_cons_succ, List.getElem?_cons_zero]; rfl) (by kernel_rfl) (by kernel_rfl) (by kernel_rfl) (fun _ _ _ h => h) (Or.inl ⟨by rfl, ?_⟩) (by assumption) ?_
          · intro w hSw
            try dsimp only at hSw
            go_simp
          try simp only [Act.put, List.setIfInBounds_toArray, List.set_cons_zero, List.set_cons_succ]
          refine wpAnyH_take (i := 28) (v := ?_) (by simp only [List.getElem?_toArray, List.getElem?_cons_succ, List.getElem?_cons_zero]; rfl) (by kernel_rfl) (by kernel_rfl) (by kernel_rfl) (fun _ _ _ h => h) (Or.inl ⟨by rfl, ?_⟩) (by assumption) ?_
          rotate_left
          · intro w hSw
            try dsimp only at hSw
            go_simp
            try with_reducible rfl
          try simp only [Act.put, List.setIfInBounds_toArray, List.set_cons_zero, List.set_cons_succ]
          refine wpAnyH_take (i := 29) (v := ?_) (by simp only [List.getElem?_toArray, List.getElem?_cons_succ, List.getElem?_cons_zero]; rfl) (by kernel_rfl) (by kernel_rfl) (by kernel_rfl) (fun _ _ _ h => h) (Or.inl ⟨by rfl, ?_⟩) (by assumption) ?_
          rotate_left
          · intro w hSw
            try dsimp only at hSw
            go_simp
            try with_reducible rfl
          try simp only [Act.put, List.setIfInBounds_toArray, List.set_cons_zero, List.set_cons_succ]
          refine wpAnyH_take (i := 31) (v := ?_) (by simp only [List.getElem?_toArray, List.getElem?_cons_succ, List.getElem?_cons_zero]; rfl) (by kernel_rfl) (by kernel_rfl) (by kernel_rfl) (fun _ _ _ h => h) (Or.inl ⟨by rfl, ?_⟩) (by assumption) ?_
          rotate_left
          · intro w hSw
            try dsimp only at hSw
            go_simp
            try with_reducible rfl
          try simp only [Act.put, List.setIfInBounds_toArray, List.set_cons_zero, List.set_cons_succ]
          refine wpAnyH_ready (rs := [30]) (by kernel_rfl) (by simp) ?_
          refine AllReadyH.cons (by simp only [List.getElem?_toArray, List.getElem?_cons_succ, List.getElem?_cons_zero]; rfl) (fun K hK => ?_) AllReadyH.nil
          go_simp
          refine HU9.out.mono ?_
          rintro e w' ⟨rfl, rfl⟩
          go_wp2_with fail
          refine hK.out _ _ q9 (fun hHeld => ?_)
          clear hK K
          try simp only [Act.put, List.setIfInBounds_toArray, List.set_cons_zero, List.set_cons_succ]
          refine wpAnyH_take (i := 32) (v := (.bool false)) (by simp only [List.getElem?_toArray, List.getElem?_cons_succ, List.getElem?_cons_zero]; rfl) (by kernel_rfl) (by kernel_rfl) (by kernel_rfl) (fun _ _ _ h => h) (Or.inl ⟨by rfl, ?_⟩) (by assumption) ?_
          · intro w hSw
            try dsimp only at hSw
            go_simp
          try simp only [Act.put, List.setIfInBounds_toArray, List.set_cons_zero, List.set_cons_succ]
          refine wpAnyH_take (i := 33) (v := (.bool false)) (by simp only [List.getElem?_toArray, List.getElem?_cons_succ, List.getElem?_cons_zero]; rfl) (by kernel_rfl) (by kernel_rfl) (by kernel_rfl) (fun _ _ _ h => h) (Or.inl ⟨by rfl, ?_⟩) (by assumption) ?_
          · intro w hSw
            try dsimp only at hSw
            go_simp
          try simp only [Act.put, List.setIfInBounds_toArray, List.set_cons_zero, List.set_cons_succ]
          refine wpAnyH_done (by kernel_rfl) ?_ _
          refine NoPanic.normal ?_
          by_cases hrm : z.what.tmod 5 = 0
          · go_wp2_with fail
            refine (names_to w9 _ d S8 s C9.out.ds (by have := HLV.out.works; omega)).mono ?_
            rintro e x1 ⟨v3, rfl, o3, b3⟩
            rw [HLV.out.dead] at o3
            simp only [Bool.false_eq_true, if_false] at o3
            obtain ⟨p3, c3, rfl⟩ := own_slice o3
            have D1 := Lib.hid (C9.out.kb b3)
            clear b3 o3
            cases hnm : nms (s).files with
            | nil =>
              go_wp2_with fail
              exact ⟨⟨k + 1, S8, s, by have := HKN.out; omega, by have := HKN.out; omega, by go_num, Lib.hid ⟨D1.out, live_mono HLV.out (by omega)⟩⟩, by simp [intOf]; have := HKN.out; omega⟩
            | cons a r =>
              have hlen : ((a :: r).length : Int) = (r.length : Int) + 1 := by simp
              have hpos : 0 < (r.length : Int) + 1 := by omega
              have HAL : Hid (a.length ≤ 20) := Lib.hid (by
                have h1 : a ∈ nms (s).files := by rw [hnm]; exact List.mem_cons_self
                obtain ⟨q, hq, rfl⟩ := List.mem_map.1 h1
                exact HLV.out.nm q hq)
              have HNM := Lib.hid hnm
              clear hnm
              go_wp2_with fail
              refine (names_to x1 _ d S8 s D1.out.ds (by have := HLV.out.works; omega)).mono ?_
              rintro e x2 ⟨v4, rfl, o4, b4⟩
              rw [HLV.out.dead] at o4
              simp only [Bool.false_eq_true, if_false] at o4
              rw [HNM.out] at o4
              obtain ⟨p4, c4, rfl⟩ := own_slice o4
              have D2 := Lib.hid (D1.out.kb b4)
              obtain ⟨g4, rfl, hc4⟩ := row_first D2.out (RBes.new o4 D1.out)
              clear b4 o4
              go_wp2_with fail
              refine (remove_to x2 _ d S8 s a D2.out.ds (by have := HLV.out.works; omega) (by rw [HLV.out.fuse]; decide) (Nat.le_trans HAL.out (by decide))).mono ?_
              rintro e x3 ⟨rfl, S9, h9, o9, s9⟩
              have D3 := Lib.hid (D2.out.step h9 o9 s9)
              have HL3 := Lib.hid (live_rem HLV.out (ds_asc D2.out.ds) a)
              clear h9 o9 s9
              go_wp2_with fail
              exact ⟨⟨k + 1, S9, _, by have := HKN.out; omega, by have := HKN.out; omega, by go_num, Lib.hid ⟨D3.out, live_mono HL3.out (by omega)⟩⟩, by simp [intOf]; have := HKN.out; omega⟩
          · go_wp2_with fail
            exact ⟨⟨k + 1, S8, s, by have := HKN.out; omega, by have := HKN.out; omega, by go_num, Lib.hid ⟨C9.out, live_mono HLV.out (by omega)⟩⟩, by simp [intOf]; have := HKN.out; omega⟩
        · obtain ⟨a1, a2, a3⟩ := live_app_yes HR.out.live (ds_asc HR.out.cl.ds) (n := [114, 111, 111, 116]) (by decide) hfit
          rw [a1, show enoOf 0 = .nilIface from rfl]
          generalize (s.append [114, 111, 111, 116] z.b).2 = s2 at *
          have C8 : Hid (Cl w w8 w.heap.size d S8 s2) := Lib.hid (HR.out.cl.step h8 o8 s8)
          have HLV : Hid (Live s2 R (2 * k + 1)) := Lib.hid a2
          clear a1 a2 h8 o8 s8
          obtain ⟨q0, q1, q5⟩ := HCW.out w8 C8.out.bel
          have hwr : IntKind.i64.wrap ((s.used : Int) + (z.b.length : Int)) = (s.used : Int) + (z.b.length : Int) := IntWalk.i64_in _ (by have h1 := HZB.out; have h2 := HLV.out.used; omega)
          have hf2 : (s.used : Int) + (z.b.length : Int) ≤ R := by omega
          have hus2 : ¬ R < (s2.used : Int) := by have := HLV.out.used; omega
          have HU8 : Hid (∀ q, Calls Tryd.prog 34 #[.pointer (some ⟨d,0,none⟩)] (w8.drewN q) fun e w' => e = .returned (.int .i64 s2.used) ∧ w8.drewN q = w') := Lib.hid (fun q => by
            have h1 := used_ds2 (w8.drewN q) _ d S8 s2 (C8.out.ds.kb ⟨rfl, rfl, rfl, Nat.le_refl _, fun _ _ => rfl⟩)
            rw [HLV.out.dead] at h1
            simp only [Bool.false_eq_true, if_false] at h1
            exact h1)
          clear a3 hfit q1
          go_wp2_with fail
          go_quiet ((go_at_call 34; exact Calls.quiet_of_same ((HU8.out _).mono fun _ _ h => ⟨h.1, h.2.symm⟩)))
          have C9 : Hid (Cl w (w8.drewN nq) w.heap.size d S8 s2) := Lib.hid (C8.out.kb ⟨rfl, rfl, rfl, Nat.le_refl _, fun _ _ => rfl⟩)
          clear q0 q5 HU8 C8
          generalize w8.drewN nq = w9 at *
          obtain ⟨q0, _, _⟩ := HCW.out w9 C9.out.bel
          by_cases hrm : z.what.tmod 5 = 0
          · go_wp2_with fail
            refine (names_to w9 _ d S8 s2 C9.out.ds (by have := HLV.out.works; omega)).mono ?_
            rintro e x1 ⟨v3, rfl, o3, b3⟩
            rw [HLV.out.dead] at o3
            simp only [Bool.false_eq_true, if_false] at o3
            obtain ⟨p3, c3, rfl⟩ := own_slice o3
            have D1 := Lib.hid (C9.out.kb b3)
            clear b3 o3
            cases hnm : nms (s2).files with
            | nil =>
              go_wp2_with fail
              exact ⟨⟨k + 1, S8, s2, by have := HKN.out; omega, by have := HKN.out; omega, by go_num, Lib.hid ⟨D1.out, live_mono HLV.out (by omega)⟩⟩, by simp [intOf]; have := HKN.out; omega⟩
            | cons a r =>
              have hlen : ((a :: r).length : Int) = (r.length : Int) + 1 := by simp
              have hpos : 0 < (r.length : Int) + 1 := by omega
              have HAL : Hid (a.length ≤ 20) := Lib.hid (by
                have h1 : a ∈ nms (s2).files := by rw [hnm]; exact List.mem_cons_self
                obtain ⟨q, hq, rfl⟩ := List.mem_map.1 h1
                exact HLV.out.nm q hq)
              have HNM := Lib.hid hnm
              clear hnm
              go_wp2_with fail
              refine (names_to x1 _ d S8 s2 D1.out.ds (by have := HLV.out.works; omega)).mono ?_
              rintro e x2 ⟨v4, rfl, o4, b4⟩
              rw [HLV.out.dead] at o4
              simp only [Bool.false_eq_true, if_false] at o4
              rw [HNM.out] at o4
              obtain ⟨p4, c4, rfl⟩ := own_slice o4
              have D2 := Lib.hid (D1.out.kb b4)
              obtain ⟨g4, rfl, hc4⟩ := row_first D2.out (RBes.new o4 D1.out)
              clear b4 o4
              go_wp2_with fail
              refine (remove_to x2 _ d S8 s2 a D2.out.ds (by have := HLV.out.works; omega) (by rw [HLV.out.fuse]; decide) (Nat.le_trans HAL.out (by decide))).mono ?_
              rintro e x3 ⟨rfl, S9, h9, o9, s9⟩
              have D3 := Lib.hid (D2.out.step h9 o9 s9)
              have HL3 := Lib.hid (live_rem HLV.out (ds_asc D2.out.ds) a)
              clear h9 o9 s9
              go_wp2_with fail
              exact ⟨⟨k + 1, S9, _, by have := HKN.out; omega, by have := HKN.out; omega, by go_num, Lib.hid ⟨D3.out, live_mono HL3.out (by omega)⟩⟩, by simp [intOf]; have := HKN.out; omega⟩
          · go_wp2_with fail
            exact ⟨⟨k + 1, S8, s2, by have := HKN.out; omega, by have := HKN.out; omega, by go_num, Lib.hid ⟨C9.out, live_mono HLV.out (by omega)⟩⟩, by simp [intOf]; have := HKN.out; omega⟩
    · by_cases h1 : k < n
      · have hk' : (k : Int) < n := by omega
        have hk'' : ¬ (k : Int) < 40 := by omega
        clear hlt
        go_wp2_with fail
        go_ret
        exact ⟨rfl, HR.out.cl.bel⟩
      · have hk' : ¬ (k : Int) < n := by omega
        clear hlt
        go_wp2_with fail
        go_ret
        exact ⟨rfl, HR.out.cl.bel⟩
end Go.Proofs.YtemfblhlkonlpaaDoor
