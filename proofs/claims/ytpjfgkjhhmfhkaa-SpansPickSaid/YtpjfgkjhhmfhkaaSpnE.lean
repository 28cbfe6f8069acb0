/- What the statements share: their sets (set), the chapter's example (known). No condition. -/
import Derived.Test.YtpjfgkjhhmfhkaaSpnU
import Derived.Test.YtpjfgkjhhmfhkaaSpnQ
namespace Go.Proofs.Ytpjfgkjhhmfhkaa
open Go.RowKit

theorem seen_one {w : World} {b : Nat} {s : Sp} {t : TypeId} (h : w.heap[b]? = some (.cells #[.int .i64 s.1, .int .i64 s.2] t (0, 0))) : SSeen w (.slice (some ⟨b, 0, none⟩) 1 1) [s] := by
  obtain ⟨h1, h2⟩ := sp_cells h
  refine ⟨_, _, rfl, Nat.le_refl _, fun j u hj => ?_⟩
  have hj0 : j = 0 := by have := (List.getElem?_eq_some_iff.1 hj).1; simp at this; omega
  subst hj0
  obtain rfl : s = u := by simpa using hj
  exact ⟨b, 0, rfl, h1, h2⟩
theorem known_eq : mk ([((1, 3) : Sp)] ++ [(4, 6)]) = [(1, 6)] := by decide
set_option maxHeartbeats 2000000 in
theorem known10_to (w : World) : Calls Try.prog 15 #[] w fun e w' => e = .returned (.bool true) ∧ Below w.heap.size w w' := by
  have b1 := (Below.refl w.heap.size w).alloc (Nat.le_refl _) (.cells #[.int .i64 1, .int .i64 3] 23)
  have b2 := b1.alloc b1.size (.cells #[.int .i64 4, .int .i64 6] 23)
  have hs1 : (w.alloc (.cells #[.int .i64 1, .int .i64 3] 23)).heap.size = w.heap.size + 1 := by simp
  have n1 : ((w.alloc (.cells #[.int .i64 1, .int .i64 3] 23)).alloc (.cells #[.int .i64 4, .int .i64 6] 23)).heap[w.heap.size]? = some (.cells #[.int .i64 1, .int .i64 3] 23 (0, 0)) := by
    rw [(((Below.refl _ (w.alloc (.cells #[.int .i64 1, .int .i64 3] 23))).alloc (Nat.le_refl _) (.cells #[.int .i64 4, .int .i64 6] 23)).block w.heap.size (by simp))]
    exact heap_alloc_last w _
  have n2 : ((w.alloc (.cells #[.int .i64 1, .int .i64 3] 23)).alloc (.cells #[.int .i64 4, .int .i64 6] 23)).heap[w.heap.size + 1]? = some (.cells #[.int .i64 4, .int .i64 6] 23 (0, 0)) := by
    rw [← hs1]; exact heap_alloc_last _ _
  have HU := Lib.hid (union_to ((w.alloc (.cells #[.int .i64 1, .int .i64 3] 23)).alloc (.cells #[.int .i64 4, .int .i64 6] 23)) _ _ _ _ (seen_one (s := (1, 3)) n1) (seen_one (s := (4, 6)) n2) (by decide) (fun s hs => (by obtain rfl : s = (1, 3) := (by simpa using hs); decide)) (fun s hs => (by obtain rfl : s = (4, 6) := (by simpa using hs); decide)))
  have B2 := Lib.hid b2
  clear b1 b2 n1 n2 hs1
  rw [known_eq] at HU
  go_enter Try.func15, Try.ntmps15
  go_wp2_with fail
  refine HU.out.mono ?_
  rintro e w3 ⟨v3, rfl, o3, b3⟩
  have B3 := Lib.hid (B2.out.trans (b3.mono B2.out.size))
  obtain ⟨p3, c3, rfl⟩ := o3.shape
  obtain ⟨b, o, rfl, h1, h2⟩ := o3.seen.at (j := 0) (by decide)
  rw [show ([((1, 6) : Sp)])[0] = (1, 6) from rfl, Nat.zero_mul, Nat.add_zero] at h1 h2
  clear o3 b3
  go_wp2_with fail
  go_ret
  exact ⟨rfl, B3.out⟩
/-- What the statements' sets hold. -/
structure OkSet (wild : Bool) (L : List Sp) : Prop where
  top : Top topN L
  small : wild = false → Top 100 L
theorem OkSet.nil (wild : Bool) : OkSet wild [] := ⟨fun s h => by simp at h, fun _ s h => by simp at h⟩
theorem OkSet.snoc {wild : Bool} {L : List Sp} {s : Sp} (h : OkSet wild L) (h1 : s.2 ≤ 100 ∨ (wild = true ∧ s.2 ≤ topN)) : OkSet wild (L ++ [s]) := by
  have ht : s.2 ≤ topN := by unfold topN at *; omega
  refine ⟨fun u hu => ?_, fun hw u hu => ?_⟩
  · rcases List.mem_append.1 hu with hu | hu
    · exact h.top u hu
    · obtain rfl : u = s := by simpa using hu
      exact ht
  · rcases List.mem_append.1 hu with hu | hu
    · exact h.small hw u hu
    · obtain rfl : u = s := by simpa using hu
      rcases h1 with h1 | h1
      · exact h1
      · rw [hw] at h1; cases h1.1
theorem set_fits {x y : Int} : wrap64 (x % 60 - 2) = x % 60 - 2 ∧ wrap64 (x % 60 - 2 + y % 9) = x % 60 - 2 + y % 9 ∧ wrap64 (x % 60 - 2 + y % 9 - 2) = x % 60 - 2 + y % 9 - 2 ∧ wrap64 (9223372036854775807 - y % 5) = 9223372036854775807 - y % 5 ∧ x % 60 - 2 + y % 9 - 2 ≤ 100 ∧ 9223372036854775807 - y % 5 ≤ topN := by
  unfold wrap64 topN; omega
theorem set_fits2 {y z : Int} (h : 0 ≤ z ∧ z < 6) : wrap64 (9223372036854775807 - y % 5 - z) = 9223372036854775807 - y % 5 - z := by
  unfold wrap64; omega
theorem set_next {m m2 : Nat} (h : m < 24) (h2 : m2 = m + 1) : wrap64 ((m : Int) + 1) = (m2 : Int) ∧ wrap64 ((m : Int) + 2) = (m : Int) + 2 ∧ IntKind.i64.wrap (m2 : Int) = m2 := by rw [wrap64_eq]; unfold wrap64; omega
/-- The span at hand, in a block of its own, beside what is kept. -/
structure SetI (w W : World) (B0 : Nat) (a : Addr) (m m2 : Nat) (x y lo hi : Int) (v : Value) (L : List Sp) : Prop where
  bel : Below w.heap.size w W
  own : SOwn W w.heap.size v L
  blk : W.heap[B0]? = some (.cells #[.int .i64 lo, .int .i64 hi] 23 (0, 0))
  c1 : W.cell? (a.add m) = some (.int .i64 x)
  c2 : W.cell? (a.add m2) = some (.int .i64 y)
  ge : w.heap.size ≤ B0
  ne1 : a.block ≠ B0
  ne2 : ∀ j, v.ownBlock = some j → j ≠ B0
section
variable {w W : World} {B0 : Nat} {a : Addr} {m m2 : Nat} {x y lo hi u : Int} {v : Value} {L : List Sp}
theorem SetI.cells (H : SetI w W B0 a m m2 x y lo hi v L) : (W.cell? ⟨B0, 0, none⟩ = some (.int .i64 lo) ∧ W.cell? ⟨B0, 1, none⟩ = some (.int .i64 hi)) ∧ W.cell? (a.add m) = some (.int .i64 x) ∧ W.cell? (a.add m2) = some (.int .i64 y) := ⟨sp_cells H.blk, H.c1, H.c2⟩
theorem SetI.drw (H : SetI w W B0 a m m2 x y lo hi v L) : SetI w W.drew B0 a m m2 x y lo hi v L := { H with bel := H.bel.drew, own := H.own.drn 1 }
theorem SetI.frz (H : SetI w W B0 a m m2 x y lo hi v L) (i : Nat) : W.frozen? ⟨B0, i, none⟩ = false := by simp [World.frozen?, H.blk]
theorem setI_set (W : World) (B0 i : Nat) (p : Value) : Only (fun j => j = B0) W (W.setCell ⟨B0, i, none⟩ p) := (Only.refl (fun j => j = B0) W).setCell (p := ⟨B0, i, none⟩) rfl _
theorem SetI.other (H : SetI w W B0 a m m2 x y lo hi v L) {W' : World} (h : Only (fun j => j = B0) W W') {lo' hi' : Int} (hb : W'.heap[B0]? = some (.cells #[.int .i64 lo', .int .i64 hi'] 23 (0, 0))) : SetI w W' B0 a m m2 x y lo' hi' v L :=
  ⟨H.bel.trans (h.below H.bel.size (fun k hk => by rw [hk]; exact H.ge)), H.own.kept h H.ne2, hb,
    (World.cell?_of_block (w := W) (h.block _ (World.block_lt_of_cell? _ _ H.c1) (by rw [Addr.add_block]; exact H.ne1))).trans H.c1,
    (World.cell?_of_block (w := W) (h.block _ (World.block_lt_of_cell? _ _ H.c2) (by rw [Addr.add_block]; exact H.ne1))).trans H.c2, H.ge, H.ne1, H.ne2⟩
theorem SetI.set1 (H : SetI w W B0 a m m2 x y lo hi v L) (u : Int) : SetI w (W.setCell ⟨B0, 1, none⟩ (.int .i64 u)) B0 a m m2 x y lo u v L :=
  H.other (setI_set W B0 1 _) (cells_set (row := [_, _]) (j := 1) H.blk _)
theorem SetI.set0 (H : SetI w W B0 a m m2 x y lo hi v L) (u : Int) : SetI w (W.setCell ⟨B0, 0, none⟩ (.int .i64 u)) B0 a m m2 x y u hi v L :=
  H.other (setI_set W B0 0 _) (cells_set (row := [_, _]) (j := 0) H.blk _)
end
set_option maxHeartbeats 8000000 in
theorem set_to (w : World) (v : Value) (l : List Int) (wild : Bool) (hs : NSeen w v l) :
    Calls Try.prog 20 #[v, .bool wild] w fun e w' => ∃ v' L, e = .returned v' ∧ SOwn w' w.heap.size v' L ∧ L.length ≤ 12 ∧ OkSet wild L ∧ Below w.heap.size w w' := by
  obtain ⟨p, cap, rfl⟩ := hs.form
  have HS := Lib.hid hs
  obtain ⟨n, hn⟩ : ∃ n, n = l.length := ⟨_, rfl⟩
  rw [← hn] at HS ⊢
  have HN := Lib.hid hn
  clear hs hn
  go_enter Try.func20, Try.ntmps20
  go_wp2_with fail
  go_loopw [5, 6] (fun z i wr => ∃ (m : Nat) (L : List Sp), m ≤ 24 ∧ i = .int .i64 (m : Int) ∧ Hid (L.length * 2 = m) ∧ Hid (OkSet wild L) ∧ Hid (SOwn wr w.heap.size z L) ∧ Hid (Below w.heap.size w wr)) (fun _ i _ => 24 - (intOf i).toNat)
  case atStart => exact ⟨0, [], Nat.zero_le _, rfl, Lib.hid rfl, Lib.hid (OkSet.nil _), Lib.hid (SOwn.nil w _), Lib.hid (Below.refl _ w)⟩
  case round =>
    obtain ⟨m, L, hk, rfl, HLK, OK, O, B⟩ := hrel
    obtain ⟨pz, cz, rfl⟩ := O.out.shape
    obtain ⟨m2, hm2⟩ : ∃ m2, m2 = m + 1 := ⟨_, rfl⟩
    have HM2 := Lib.hid hm2
    by_cases c1 : m2 < n
    · by_cases c2 : m < 24
      · have hk1 : m < l.length := by rw [← HN.out]; omega
        have hk2 : m2 < l.length := by rw [← HN.out]; omega
        obtain ⟨a, rfl, h1⟩ := (HS.out.kb B.out).at hk1
        obtain ⟨a', e', h2⟩ := (HS.out.kb B.out).at hk2
        obtain rfl : a = a' := by injection e'
        obtain ⟨x, hx⟩ : ∃ x, x = l[m] := ⟨_, rfl⟩
        obtain ⟨y, hy⟩ : ∃ y, y = l[m2] := ⟨_, rfl⟩
        rw [← hx] at h1
        rw [← hy] at h2
        clear hx hy e'
        have HF := Lib.hid (set_fits (x := x) (y := y))
        obtain ⟨f1, f2, f3⟩ := set_next c2 hm2
        have hi1 : (m : Int) < (n : Int) := by omega
        have hi2 : (m2 : Int) < (n : Int) := by omega
        have hi3 : (m : Int) < 24 := by omega
        clear hm2
        obtain ⟨g1, g2, g3, g4, _, _⟩ := HF.out
        have hW := fun n => wrap64_eq n
        go_wp2_with (first
          | (go_at_call 31; refine (pick_any _ x 60 (by decide) (by decide)).mono ?_; rintro e w2 ⟨rfl, rfl⟩))
        have b0 := (Below.refl wr.heap.size wr).alloc (Nat.le_refl _) (.cells #[.int .i64 (x % 60 - 2), .int .i64 0] 23)
        have I0 : Hid (SetI w (wr.alloc (.cells #[.int .i64 (x % 60 - 2), .int .i64 0] 23)) wr.heap.size a m m2 x y (x % 60 - 2) 0 (.slice pz L.length cz) L) := Lib.hid ⟨B.out.alloc B.out.size _, O.out.alloc _, heap_alloc_last wr _, (b0.cell (World.block_lt_of_cell? _ _ h1)).trans h1, (b0.cell (World.block_lt_of_cell? _ _ h2)).trans h2, B.out.size, (by have := World.block_lt_of_cell? _ _ h1; rw [Addr.add_block] at this; omega), fun j hj => (by have := (O.out.lt j hj).2; omega)⟩
        obtain ⟨B0, hB0⟩ : ∃ B0, B0 = wr.heap.size := ⟨_, rfl⟩
        rw [← hB0] at I0 ⊢
        clear b0 hB0 h1 h2
        generalize wr.alloc (.cells #[.int .i64 (x % 60 - 2), .int .i64 0] 23) = W1 at *
        try simp only [List.append]
        refine wp_region_noPanic ?_
        refine wp_region_held_drew (S := (fun W => (W.cell? ⟨B0, 0, none⟩ = some (.int .i64 (x % 60 - 2))) ∧ W.cell? (a.add m2) = some (.int .i64 y))) (by kernel_rfl) ⟨I0.out.cells.1.1, I0.out.c2⟩ (fun hHeld => ?_)
        refine wpAnyH_take (i := 0) (v := ?_) (by simp only [List.getElem?_toArray, List.getElem?_cons_zero]; rfl) (by kernel_rfl) (by kernel_rfl) (by kernel_rfl) (fun _ _ _ h => h) (Or.inl ⟨by rfl, ?_⟩) (by assumption) ?_
        rotate_left
        · intro w hSw
          try dsimp only at hSw
          go_simp
          try with_reducible rfl
        try simp only [Act.put, List.setIfInBounds_toArray, List.set_cons_zero, List.set_cons_succ]
        refine wpAnyH_take (i := 1) (v := ?_) (by simp only [List.getElem?_toArray, List.getElem?_cons_succ, List.getElem?_cons_zero]; rfl) (by kernel_rfl) (by kernel_rfl) (by kernel_rfl) (fun _ _ _ h => h) (Or.inl ⟨by rfl, ?_⟩) (by assumption) ?_
        rotate_left
        · intro w hSw
          try dsimp only at hSw
          go_simp
          try with_reducible rfl
        try simp only [Act.put, List.setIfInBounds_toArray, List.set_cons_zero, List.set_cons_succ]
        refine wpAnyH_take (i := 2) (v := ?_) (by simp only [List.getElem?_toArray, List.getElem?_cons_succ, List.getElem?_cons_zero]; rfl) (by kernel_rfl) (by kernel_rfl) (by kernel_rfl) (fun _ _ _ h => h) (Or.inl ⟨by rfl, ?_⟩) (by assumption) ?_
        rotate_left
        · intro w hSw
          try dsimp only at hSw
          go_simp
          try with_reducible rfl
        try simp only [Act.put, List.setIfInBounds_toArray, List.set_cons_zero, List.set_cons_succ]
        refine wpAnyH_take (i := 3) (v := ?_) (by simp only [List.getElem?_toArray, List.getElem?_cons_succ, List.getElem?_cons_zero]; rfl) (by kernel_rfl) (by kernel_rfl) (by kernel_rfl) (fun _ _ _ h => h) (Or.inl ⟨by rfl, ?_⟩) (by assumption) ?_
        rotate_left
        · intro w hSw
          try dsimp only at hSw
          go_simp
          try with_reducible rfl
        try simp only [Act.put, List.setIfInBounds_toArray, List.set_cons_zero, List.set_cons_succ]
        refine wpAnyH_take (i := 4) (v := (.int .i64 (m2 : Int))) (by simp only [List.getElem?_toArray, List.getElem?_cons_succ, List.getElem?_cons_zero]; rfl) (by kernel_rfl) (by kernel_rfl) (by kernel_rfl) (fun _ _ _ h => h) (Or.inl ⟨by rfl, ?_⟩) (by assumption) ?_
        · intro w hSw
          try dsimp only at hSw
          go_simp
        try simp only [Act.put, List.setIfInBounds_toArray, List.set_cons_zero, List.set_cons_succ]
        refine wpAnyH_take (i := 5) (v := ?_) (by simp only [List.getElem?_toArray, List.getElem?_cons_succ, List.getElem?_cons_zero]; rfl) (by kernel_rfl) (by kernel_rfl) (by kernel_rfl) (fun _ _ _ h => h) (Or.inl ⟨by rfl, ?_⟩) (by assumption) ?_
        rotate_left
        · intro w hSw
          try dsimp only at hSw
          go_simp
          try with_reducible rfl
        try simp only [Act.put, List.setIfInBounds_toArray, List.set_cons_zero, List.set_cons_succ]
        refine wpAnyH_take (i := 6) (v := ?_) (by simp only [List.getElem?_toArray, List.getElem?_cons_succ, List.getElem?_cons_zero]; rfl) (by kernel_rfl) (by kernel_rfl) (by kernel_rfl) (fun _ _ _ h => h) (Or.inl ⟨by rfl, ?_⟩) (by assumption) ?_
        rotate_left
        · intro w hSw
          try dsimp only at hSw
          go_simp
          try with_reducible rfl
        try simp only [Act.put, List.setIfInBounds_toArray, List.set_cons_zero, List.set_cons_succ]
        refine wpAnyH_ready (rs := [7]) (by kernel_rfl) (by simp) ?_
        refine AllReadyH.cons (by simp only [List.getElem?_toArray, List.getElem?_cons_succ, List.getElem?_cons_zero]; rfl) (fun K hK => ?_) AllReadyH.nil
        go_simp
        refine (pick_any _ y 9 (by decide) (by decide)).mono ?_
        rintro e w2 ⟨rfl, rfl⟩
        go_wp2_with fail
        refine hK.out _ _ ⟨I0.out.cells.1.1, I0.out.c2⟩ (fun hHeld => ?_)
        clear hK K
        try simp only [Act.put, List.setIfInBounds_toArray, List.set_cons_zero, List.set_cons_succ]
        refine wpAnyH_take (i := 8) (v := (.int .i64 (x % 60 - 2 + y % 9))) (by simp only [List.getElem?_toArray, List.getElem?_cons_succ, List.getElem?_cons_zero]; rfl) (by kernel_rfl) (by kernel_rfl) (by kernel_rfl) (fun _ _ _ h => h) (Or.inl ⟨by rfl, ?_⟩) (by assumption) ?_
        · intro w hSw
          try dsimp only at hSw
          go_simp
        try simp only [Act.put, List.setIfInBounds_toArray, List.set_cons_zero, List.set_cons_succ]
        refine wpAnyH_take (i := 9) (v := (.int .i64 (x % 60 - 2 + y % 9 - 2))) (by simp only [List.getElem?_toArray, List.getElem?_cons_succ, List.getElem?_cons_zero]; rfl) (by kernel_rfl) (by kernel_rfl) (by kernel_rfl) (fun _ _ _ h => h) (Or.inl ⟨by rfl, ?_⟩) (by assumption) ?_
        · intro w hSw
          try dsimp only at hSw
          go_simp
        try simp only [Act.put, List.setIfInBounds_toArray, List.set_cons_zero, List.set_cons_succ]
        refine wpAnyH_take (i := 10) (v := ?_) (by simp only [List.getElem?_toArray, List.getElem?_cons_succ, List.getElem?_cons_zero]; rfl) (by kernel_rfl) (by kernel_rfl) (by kernel_rfl) (fun _ _ _ h => h) (Or.inl ⟨by rfl, ?_⟩) (by assumption) ?_
        rotate_left
        · intro w hSw
          try dsimp only at hSw
          go_simp
          try with_reducible rfl
        try simp only [Act.put, List.setIfInBounds_toArray, List.set_cons_zero, List.set_cons_succ]
        have hfz := I0.out.frz 1
        obtain ⟨⟨z3, z4⟩, z1, z2⟩ := I0.out.cells
        have I1 := Lib.hid (I0.out.set1 (x % 60 - 2 + y % 9 - 2)).drw
        refine wpAnyH_ready (rs := [11]) (by kernel_rfl) (by simp) ?_
        refine AllReadyH.cons (by simp only [List.getElem?_toArray, List.getElem?_cons_succ, List.getElem?_cons_zero]; rfl) (fun K hK => ?_) AllReadyH.nil
        go_simp
        go_wp2_with fail
        refine hK.out _ _ ⟨I1.out.cells.1.1, I1.out.c2⟩ (fun hHeld => ?_)
        clear hK K
        try simp only [Act.put, List.setIfInBounds_toArray, List.set_cons_zero, List.set_cons_succ]
        refine wpAnyH_done (by kernel_rfl) ?_ _
        refine NoPanic.normal ?_
        clear I0 hfz z1 z2 z3 z4
        generalize (W1.setCell ⟨B0, 1, none⟩ (.int .i64 (x % 60 - 2 + y % 9 - 2))).drew = W2 at *
        obtain ⟨⟨z3, z4⟩, z1, z2⟩ := I1.out.cells
        have hfz0 := I1.out.frz 0
        have hfz1 := I1.out.frz 1
        have HLN : Hid (L.length ≤ 1000000) := Lib.hid (by have := HLK.out; omega)
        cases wild with
        | false =>
          go_wp2_with (first
            | (at_builtin; refine push_span (by rfl) (.tmp 64) (.tmp 66) (by rfl) (x % 60 - 2, x % 60 - 2 + y % 9 - 2) w.heap.size _ L (by rfl) I1.out.own W2.heap.size rfl (by rfl) HLN.out I1.out.bel.size ?_; intro p3 c3 w3 own3 _ _ b3; have O3 := Lib.hid own3; have B3 := Lib.hid (I1.out.bel.trans b3); clear own3 b3))
          exact ⟨⟨m + 2, L ++ [(x % 60 - 2, x % 60 - 2 + y % 9 - 2)], (by have := HLK.out; omega), by go_num, Lib.hid (by rw [List.length_append, Nat.add_mul, HLK.out]; rfl), Lib.hid (OK.out.snoc (.inl HF.out.2.2.2.2.1)), O3, B3⟩, by simp [intOf]; omega⟩
        | true =>
          have hr1 := Int.tmod_lt_of_pos x (show (0 : Int) < 7 by decide)
          have hr2 := Int.lt_tmod_of_pos x (show (0 : Int) < 7 by decide)
          obtain ⟨r, hr⟩ : ∃ r, r = x.tmod 7 := ⟨_, rfl⟩
          rw [← hr] at hr1 hr2
          have hr3 : wrap64 r = r := by unfold wrap64; omega
          by_cases c : r = 6
          · have dc : (x.tmod 7 == 6) = true := by rw [← hr]; simpa using c
            clear c hr1 hr2 hr3 hr
            go_wp2_with (first
              | (go_at_call 31; refine (pick_any _ y 5 (by decide) (by decide)).mono ?_; rintro e w2 ⟨rfl, rfl⟩))
            have I2 := Lib.hid (I1.out.set1 (9223372036854775807 - y % 5))
            clear I1 hfz0 hfz1 z1 z2 z3 z4
            generalize W2.setCell ⟨B0, 1, none⟩ (.int .i64 (9223372036854775807 - y % 5)) = W3 at *
            have hfz0 := I2.out.frz 0
            obtain ⟨⟨z3, z4⟩, z1, z2⟩ := I2.out.cells
            try simp only [List.append]
            refine wp_region_noPanic ?_
            refine wp_region_held_drew (S := (fun W => (W.cell? ⟨B0, 1, none⟩ = some (.int .i64 (9223372036854775807 - y % 5))) ∧ W.cell? (a.add m) = some (.int .i64 x))) (by kernel_rfl) ⟨z4, z1⟩ (fun hHeld => ?_)
            refine wpAnyH_take (i := 0) (v := ?_) (by simp only [List.getElem?_toArray, List.getElem?_cons_zero]; rfl) (by kernel_rfl) (by kernel_rfl) (by kernel_rfl) (fun _ _ _ h => h) (Or.inl ⟨by rfl, ?_⟩) (by assumption) ?_
            rotate_left
            · intro w hSw
              try dsimp only at hSw
              go_simp
              try with_reducible rfl
            try simp only [Act.put, List.setIfInBounds_toArray, List.set_cons_zero, List.set_cons_succ]
            refine wpAnyH_take (i := 1) (v := ?_) (by simp only [List.getElem?_toArray, List.getElem?_cons_succ, List.getElem?_cons_zero]; rfl) (by kernel_rfl) (by kernel_rfl) (by kernel_rfl) (fun _ _ _ h => h) (Or.inl ⟨by rfl, ?_⟩) (by assumption) ?_
            rotate_left
            · intro w hSw
              try dsimp only at hSw
              go_simp
              try with_reducible rfl
            try simp only [Act.put, List.setIfInBounds_toArray, List.set_cons_zero, List.set_cons_succ]
            refine wpAnyH_take (i := 2) (v := ?_) (by simp only [List.getElem?_toArray, List.getElem?_cons_succ, List.getElem?_cons_zero]; rfl) (by kernel_rfl) (by kernel_rfl) (by kernel_rfl) (fun _ _ _ h => h) (Or.inl ⟨by rfl, ?_⟩) (by assumption) ?_
            rotate_left
            · intro w hSw
              try dsimp only at hSw
              go_simp
              try with_reducible rfl
            try simp only [Act.put, List.setIfInBounds_toArray, List.set_cons_zero, List.set_cons_succ]
            refine wpAnyH_take (i := 3) (v := ?_) (by simp only [List.getElem?_toArray, List.getElem?_cons_succ, List.getElem?_cons_zero]; rfl) (by kernel_rfl) (by kernel_rfl) (by kernel_rfl) (fun _ _ _ h => h) (Or.inl ⟨by rfl, ?_⟩) (by assumption) ?_
            rotate_left
            · intro w hSw
              try dsimp only at hSw
              go_simp
              try with_reducible rfl
            try simp only [Act.put, List.setIfInBounds_toArray, List.set_cons_zero, List.set_cons_succ]
            refine wpAnyH_take (i := 4) (v := ?_) (by simp only [List.getElem?_toArray, List.getElem?_cons_succ, List.getElem?_cons_zero]; rfl) (by kernel_rfl) (by kernel_rfl) (by kernel_rfl) (fun _ _ _ h => h) (Or.inl ⟨by rfl, ?_⟩) (by assumption) ?_
            rotate_left
            · intro w hSw
              try dsimp only at hSw
              go_simp
              try with_reducible rfl
            try simp only [Act.put, List.setIfInBounds_toArray, List.set_cons_zero, List.set_cons_succ]
            refine wpAnyH_take (i := 5) (v := ?_) (by simp only [List.getElem?_toArray, List.getElem?_cons_succ, List.getElem?_cons_zero]; rfl) (by kernel_rfl) (by kernel_rfl) (by kernel_rfl) (fun _ _ _ h => h) (Or.inl ⟨by rfl, ?_⟩) (by assumption) ?_
            rotate_left
            · intro w hSw
              try dsimp only at hSw
              go_simp
              try with_reducible rfl
            try simp only [Act.put, List.setIfInBounds_toArray, List.set_cons_zero, List.set_cons_succ]
            refine wpAnyH_take (i := 6) (v := ?_) (by simp only [List.getElem?_toArray, List.getElem?_cons_succ, List.getElem?_cons_zero]; rfl) (by kernel_rfl) (by kernel_rfl) (by kernel_rfl) (fun _ _ _ h => h) (Or.inl ⟨by rfl, ?_⟩) (by assumption) ?_
            rotate_left
            · intro w hSw
              try dsimp only at hSw
              go_simp
              try with_reducible rfl
            try simp only [Act.put, List.setIfInBounds_toArray, List.set_cons_zero, List.set_cons_succ]
            obtain ⟨z, hz⟩ : ∃ z, wrap64 (x.tdiv 7) % 6 = z := ⟨_, rfl⟩
            have hz2 : 0 ≤ z ∧ z < 6 := by omega
            have hz3 := set_fits2 (y := y) hz2
            clear hz2
            have HZ := Lib.hid hz
            clear hz
            refine wpAnyH_ready (rs := [7]) (by kernel_rfl) (by simp) ?_
            refine AllReadyH.cons (by simp only [List.getElem?_toArray, List.getElem?_cons_succ, List.getElem?_cons_zero]; rfl) (fun K hK => ?_) AllReadyH.nil
            go_simp
            refine (pick_to _ _ 6 z (by decide) (by decide) HZ.out).mono ?_
            rintro e w2 ⟨rfl, rfl⟩
            go_wp2_with fail
            refine hK.out _ _ ⟨z4, z1⟩ (fun hHeld => ?_)
            clear hK K
            try simp only [Act.put, List.setIfInBounds_toArray, List.set_cons_zero, List.set_cons_succ]
            refine wpAnyH_take (i := 8) (v := (.int .i64 (9223372036854775807 - y % 5 - z))) (by simp only [List.getElem?_toArray, List.getElem?_cons_succ, List.getElem?_cons_zero]; rfl) (by kernel_rfl) (by kernel_rfl) (by kernel_rfl) (fun _ _ _ h => h) (Or.inl ⟨by rfl, ?_⟩) (by assumption) ?_
            · intro w hSw
              try dsimp only at hSw
              go_simp
            try simp only [Act.put, List.setIfInBounds_toArray, List.set_cons_zero, List.set_cons_succ]
            refine wpAnyH_take (i := 9) (v := ?_) (by simp only [List.getElem?_toArray, List.getElem?_cons_succ, List.getElem?_cons_zero]; rfl) (by kernel_rfl) (by kernel_rfl) (by kernel_rfl) (fun _ _ _ h => h) (Or.inl ⟨by rfl, ?_⟩) (by assumption) ?_
            rotate_left
            · intro w hSw
              try dsimp only at hSw
              go_simp
              try with_reducible rfl
            try simp only [Act.put, List.setIfInBounds_toArray, List.set_cons_zero, List.set_cons_succ]
            have I3 := Lib.hid (I2.out.set0 (9223372036854775807 - y % 5 - z)).drw
            refine wpAnyH_ready (rs := [10]) (by kernel_rfl) (by simp) ?_
            refine AllReadyH.cons (by simp only [List.getElem?_toArray, List.getElem?_cons_succ, List.getElem?_cons_zero]; rfl) (fun K hK => ?_) AllReadyH.nil
            go_simp
            go_wp2_with fail
            refine hK.out _ _ ⟨I3.out.cells.1.2, I3.out.c1⟩ (fun hHeld => ?_)
            clear hK K
            try simp only [Act.put, List.setIfInBounds_toArray, List.set_cons_zero, List.set_cons_succ]
            refine wpAnyH_done (by kernel_rfl) ?_ _
            refine NoPanic.normal ?_
            clear I2 hfz0 z1 z2 z3 z4
            generalize (W3.setCell ⟨B0, 0, none⟩ (.int .i64 (9223372036854775807 - y % 5 - z))).drew = W4 at *
            obtain ⟨⟨z3, z4⟩, z1, z2⟩ := I3.out.cells
            go_wp2_with (first
              | (at_builtin; refine push_span (by rfl) (.tmp 64) (.tmp 66) (by rfl) (9223372036854775807 - y % 5 - z, 9223372036854775807 - y % 5) w.heap.size _ L (by rfl) I3.out.own W4.heap.size rfl (by rfl) HLN.out I3.out.bel.size ?_; intro p3 c3 w3 own3 _ _ b3; have O3 := Lib.hid own3; have B3 := Lib.hid (I3.out.bel.trans b3); clear own3 b3))
            exact ⟨⟨m + 2, L ++ [(9223372036854775807 - y % 5 - z, 9223372036854775807 - y % 5)], (by have := HLK.out; omega), by go_num, Lib.hid (by rw [List.length_append, Nat.add_mul, HLK.out]; rfl), Lib.hid (OK.out.snoc (.inr ⟨rfl, HF.out.2.2.2.2.2⟩)), O3, B3⟩, by simp [intOf]; omega⟩
          · have dc : (x.tmod 7 == 6) = false := by rw [← hr]; simpa using c
            clear c hr1 hr2 hr3 hr
            go_wp2_with (first
              | (at_builtin; refine push_span (by rfl) (.tmp 64) (.tmp 66) (by rfl) (x % 60 - 2, x % 60 - 2 + y % 9 - 2) w.heap.size _ L (by rfl) I1.out.own W2.heap.size rfl (by rfl) HLN.out I1.out.bel.size ?_; intro p3 c3 w3 own3 _ _ b3; have O3 := Lib.hid own3; have B3 := Lib.hid (I1.out.bel.trans b3); clear own3 b3))
            exact ⟨⟨m + 2, L ++ [(x % 60 - 2, x % 60 - 2 + y % 9 - 2)], (by have := HLK.out; omega), by go_num, Lib.hid (by rw [List.length_append, Nat.add_mul, HLK.out]; rfl), Lib.hid (OK.out.snoc (.inl HF.out.2.2.2.2.1)), O3, B3⟩, by simp [intOf]; omega⟩
      · have d2 : ¬ (m : Int) < 24 := by omega
        have hi3 : (m : Int) + 1 < (n : Int) := by omega
        have hi2 : (m2 : Int) < (n : Int) := by omega
        have hw : wrap64 ((m : Int) + 1) = (m2 : Int) := by unfold wrap64; omega
        clear hm2
        go_wp2_with fail
        go_ret
        first
          | exact ⟨_, L, rfl, O.out, (by have := HLK.out; omega), OK.out, B.out⟩
          | exact ⟨_, rfl, L, O.out, (by have := HLK.out; omega), OK.out, B.out⟩
    · have hi2 : ¬ (m2 : Int) < (n : Int) := by omega
      have hi3 : ¬ ((m : Int) + 1 < (n : Int)) := by omega
      have hw : wrap64 ((m : Int) + 1) = (m2 : Int) := by unfold wrap64; omega
      clear hm2
      by_cases c2 : (m : Int) < 24
      · have c3 : decide ((m : Int) < 24) = true := by simpa using c2
        go_wp2_with fail
        go_ret
        first
          | exact ⟨_, L, rfl, O.out, (by have := HLK.out; omega), OK.out, B.out⟩
          | exact ⟨_, rfl, L, O.out, (by have := HLK.out; omega), OK.out, B.out⟩
      · have c3 : decide ((m : Int) < 24) = false := by simpa using c2
        go_wp2_with fail
        go_ret
        first
          | exact ⟨_, L, rfl, O.out, (by have := HLK.out; omega), OK.out, B.out⟩
          | exact ⟨_, rfl, L, O.out, (by have := HLK.out; omega), OK.out, B.out⟩
end Go.Proofs.Ytpjfgkjhhmfhkaa
