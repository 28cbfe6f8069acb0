/- The program's total and Right. Conditions: of total: a set in normal form, within an int; of Right: each number an int. -/
import Derived.Test.YtpjfgkjhhmfhkaaSpnR
import Derived.BigQuiet
import Derived.Deep.RegionHeld3
namespace Go.Proofs.Ytpjfgkjhhmfhkaa
open Go.RowKit

/-- The largest number. -/
def topN : Int := 9223372036854775807
theorem cnt_take {l : List Sp} {k : Nat} (hk : k < l.length) : cnt (l.take (k + 1)) = cnt (l.take k) + (l[k].2 - l[k].1 + 1).toNat := by
  rw [List.take_add_one, List.getElem?_eq_getElem hk, cnt_app]
  exact congrArg _ (cnt_one _)
theorem Nrm.take {l : List Sp} (h : Nrm l) (k : Nat) : Nrm (l.take k) := by
  have := h
  rw [← List.take_append_drop k l] at this
  exact this.left
theorem Top.take {M : Int} {l : List Sp} (h : Top M l) (k : Nat) : Top M (l.take k) := fun s hs => h s (List.mem_of_mem_take hs)
theorem cnt_fits {l : List Sp} (h : Nrm l) (ht : Top topN l) (k : Nat) : (cnt (l.take k) : Int) ≤ 9223372036854775808 := by
  have := cnt_le (h.take k) (ht.take k) (by decide)
  unfold topN at this
  omega
/-- A span in a set: its ends. -/
theorem nrm_at {l : List Sp} (h : Nrm l) (ht : Top topN l) {k : Nat} (hk : k < l.length) : 0 ≤ l[k].1 ∧ l[k].1 ≤ l[k].2 ∧ l[k].2 < 9223372036854775808 := by
  have h1 := h.mem l[k] (List.getElem_mem hk)
  have h2 := ht l[k] (List.getElem_mem hk)
  unfold topN at h2
  omega
theorem cnt_sum {l : List Sp} (h : Nrm l) (ht : Top topN l) {k : Nat} (hk : k < l.length) : IntKind.u64.wrap ((cnt (l.take k) : Int) + (l[k].2 - l[k].1 + 1)) = (cnt (l.take (k + 1)) : Int) := by
  have h1 := cnt_fits h ht (k + 1)
  have h2 := nrm_at h ht hk
  rw [cnt_take hk] at h1 ⊢
  rw [IntKind.wrap_u64]
  omega
theorem below_drn10 {B : Nat} {a w : World} (h : Below B a w) (n : Nat) : Below B a (w.drewN n) := h.trans ⟨rfl, rfl, rfl, Nat.le_refl _, fun _ _ => rfl⟩
theorem sp_cells {W : World} {b : Nat} {x y : Value} {t : TypeId} (h : W.heap[b]? = some (.cells #[x, y] t (0, 0))) : W.cell? ⟨b, 0, none⟩ = some x ∧ W.cell? ⟨b, 1, none⟩ = some y := by
  constructor
  · rw [cell_of_row W b 0 _ _ _ h, List.getElem?_toArray]; rfl
  · rw [cell_of_row W b 1 _ _ _ h, List.getElem?_toArray]; rfl
theorem SOwn.drn {w : World} {B : Nat} {v : Value} {l : List Sp} (h : SOwn w B v l) (n : Nat) : SOwn (w.drewN n) B v l := h
theorem below_drew_then {w W1 w2 : World} (B : Below w.heap.size w W1) (b2 : Below W1.drew.heap.size W1.drew w2) : Below w.heap.size w w2 :=
  B.drew.trans (b2.mono B.size)
theorem below_then {w wr w2 : World} {o : Obj} (B : Below w.heap.size w wr) (b2 : Below (wr.alloc o).heap.size (wr.alloc o) w2) : Below w.heap.size w w2 :=
  (B.alloc B.size o).trans (b2.mono (B.alloc B.size o).size)
set_option maxHeartbeats 2000000 in
theorem total_to (w : World) (v : Value) (l : List Sp) (hs : SSeen w v l) (hn : Nrm l) (ht : Top topN l) (hl : l.length ≤ 1000000) : Calls Try.prog 44 #[v] w fun e w' => e = .returned (.int .u64 (cnt l)) ∧ Below w.heap.size w w' := by
  obtain ⟨p, cap, rfl⟩ := hs.form
  have HS := Lib.hid hs
  have HN := Lib.hid hn
  have HT := Lib.hid ht
  obtain ⟨n, hn'⟩ : ∃ n, n = l.length := ⟨_, rfl⟩
  rw [← hn'] at hl HS ⊢
  have HL := Lib.hid hn'
  clear hs hn ht hn'
  go_enter Try.func44, Try.ntmps44
  go_wp2_with fail
  go_loopw [3, 8] (fun z i wr => ∃ k : Nat, k ≤ n ∧ i = .int .i64 k ∧ z = .int .u64 (cnt (l.take k)) ∧ Hid (Below w.heap.size w wr)) (fun _ i _ => n - (intOf i).toNat)
  case atStart => exact ⟨0, Nat.zero_le _, rfl, rfl, Lib.hid (Below.refl _ w)⟩
  case round =>
    obtain ⟨k, hk, rfl, rfl, B⟩ := hrel
    by_cases hlt : k < n
    · have hkl : k < l.length := by rw [← HL.out]; exact hlt
      obtain ⟨b, o, rfl, c1, c2⟩ := (HS.out.kb B.out).at hkl
      have hk' : (k : Int) < n := by omega
      have hr := two_range c1 c2
      have hsum := cnt_sum HN.out HT.out hkl
      have hne := nrm_at HN.out HT.out hkl
      have hsz := fun W => size_to W l[k] hne.1 hne.2.1 hne.2.2
      obtain ⟨s, hs⟩ : ∃ s, s = l[k] := ⟨_, rfl⟩
      rw [← hs] at hr hsum hsz c1 c2
      clear hne hs
      go_wp2_with (first
        | (refine load_to (cs := [.int .i64 s.1, .int .i64 s.2]) hr Try.underlying23 rfl spsize ?hx ?_; (case hx => rfl))
        | (go_at_call 51; refine (hsz _).mono ?_; rintro e w2 ⟨rfl, b2⟩; have B2 := Lib.hid (below_then B.out b2); clear b2))
      exact ⟨⟨k + 1, by omega, by go_num, rfl, B2⟩, by simp [intOf]; omega⟩
    · obtain rfl : k = n := by omega
      go_wp2_with fail
      go_ret
      exact ⟨by rw [List.take_of_length_le (Nat.le_of_eq HL.out.symm)]; rfl, B.out⟩
/-- Right so far: each pair of neighbours. -/
def rgt1 (l : List Sp) (k : Nat) : Bool := match l[k]? with
  | none => true
  | some s => !(decide (s.1 < 0) || decide (s.1 > s.2) || (match k with | 0 => false | j + 1 => match l[j]? with | none => false | some t => !decide (t.2 < s.1 - 1)))
theorem nrm_snoc {l : List Sp} {s : Sp} : Nrm (l ++ [s]) ↔ Nrm l ∧ 0 ≤ s.1 ∧ s.1 ≤ s.2 ∧ (∀ t, l.getLast? = some t → t.2 + 1 < s.1) := by
  constructor
  · intro h
    have h1 := h.right
    refine ⟨h.left, h1.1, h1.2.1, fun t ht => h.mid t (List.mem_of_getLast? ht) s (by simp)⟩
  · rintro ⟨h1, h2, h3, h4⟩
    refine h1.app (nrm_one h2 h3) fun t ht u hu => ?_
    obtain rfl : u = s := by simpa using hu
    obtain ⟨z, hz⟩ : ∃ z, l.getLast? = some z := by
      cases h : l.getLast? with
      | none => rw [List.getLast?_eq_none_iff.1 h] at ht; simp at ht
      | some z => exact ⟨z, rfl⟩
    have h5 := h4 z hz
    obtain ⟨l', rfl⟩ := List.getLast?_eq_some_iff.1 hz
    rcases List.mem_append.1 ht with ht | ht
    · have h6 := h1.mid t ht z (by simp)
      have h7 := h1.mem z (by simp)
      omega
    · obtain rfl : t = z := by simpa using ht
      exact h5
theorem rgt_snoc {l : List Sp} {s : Sp} {k : Nat} (hk : k < l.length) : rgt1 (l ++ [s]) k = rgt1 l k := by
  unfold rgt1
  rw [List.getElem?_append_left hk]
  cases k with
  | zero => rfl
  | succ j => simp only [List.getElem?_append_left (show j < l.length by omega)]
theorem rgt_last {l : List Sp} {s : Sp} : rgt1 (l ++ [s]) l.length = true ↔ 0 ≤ s.1 ∧ s.1 ≤ s.2 ∧ (∀ t, l.getLast? = some t → t.2 + 1 < s.1) := by
  unfold rgt1
  rw [List.getElem?_append_right (Nat.le_refl _)]
  simp only [Nat.sub_self, List.getElem?_cons_zero]
  rcases List.eq_nil_or_concat l with rfl | ⟨l', z, rfl⟩
  · simp
  · simp only [List.concat_eq_append, List.length_append, List.length_cons, List.length_nil, Nat.zero_add]
    rw [show ((l' ++ [z]) ++ [s])[l'.length]? = some z from by simp]
    simp
    omega
theorem nrm_iff {l : List Sp} : (∀ k, k < l.length → rgt1 l k = true) ↔ Nrm l := by
  suffices h : ∀ (n : Nat) (l : List Sp), l.length = n → ((∀ k, k < l.length → rgt1 l k = true) ↔ Nrm l) from h _ l rfl
  intro n
  induction n with
  | zero => intro l hl; rw [List.eq_nil_of_length_eq_zero hl]; simp [Nrm]
  | succ n ih =>
    intro l hl
    rcases List.eq_nil_or_concat l with rfl | ⟨l', s, rfl⟩
    · simp at hl
    · rw [List.concat_eq_append] at hl ⊢
      have hl' : l'.length = n := by simpa using hl
      rw [nrm_snoc, ← ih l' hl', ← rgt_last]
      constructor
      · intro h
        exact ⟨fun k hk => by rw [← rgt_snoc (s := s) hk]; exact h k (by simp; omega), h _ (by simp)⟩
      · rintro ⟨h1, h2⟩ k hk
        by_cases e : k = l'.length
        · rw [e]; exact h2
        · have hk2 : k < l'.length := by simp at hk; omega
          rw [rgt_snoc hk2]; exact h1 k hk2
theorem right_no {l : List Sp} {k : Nat} {s : Sp} (hk : l[k]? = some s) (h : rgt1 l k = false) : false = true ↔ Nrm l :=
  ⟨fun h => by simp at h, fun hn => by rw [nrm_iff.2 hn k (List.getElem?_eq_some_iff.1 hk).1] at h; exact h.symm⟩
theorem right_next {l : List Sp} {k : Nat} (R : ∀ j, j < k → rgt1 l j = true) (h : rgt1 l k = true) : ∀ j, j < k + 1 → rgt1 l j = true := fun j hj => by
  by_cases e : j = k
  · rw [e]; exact h
  · exact R j (by omega)
theorem rgt_1 {l : List Sp} {k : Nat} {s : Sp} (hk : l[k]? = some s) (h : s.1 < 0) : rgt1 l k = false := by unfold rgt1; simp [hk, h]
theorem rgt_2 {l : List Sp} {k : Nat} {s : Sp} (hk : l[k]? = some s) (h : s.1 > s.2) : rgt1 l k = false := by unfold rgt1; simp [hk, h]
theorem rgt_3 {l : List Sp} {s : Sp} (hk : l[0]? = some s) (h1 : 0 ≤ s.1) (h2 : s.1 ≤ s.2) : rgt1 l 0 = true := by unfold rgt1; simp [hk]; omega
theorem rgt_4 {l : List Sp} {k : Nat} {s t : Sp} (hk : l[k + 1]? = some s) (ht : l[k]? = some t) (h1 : 0 ≤ s.1) (h2 : s.1 ≤ s.2) : rgt1 l (k + 1) = decide (t.2 < s.1 - 1) := by
  unfold rgt1
  simp [hk, ht]
  by_cases h3 : t.2 < s.1 - 1
  · simp [h3]; omega
  · simp [h3]
set_option maxHeartbeats 4000000 in
theorem right_to (w : World) (v : Value) (l : List Sp) (hs : SSeen w v l) (hin : Top topN l) (hl : l.length ≤ 1000000) : Calls Try.prog 18 #[v] w fun e w' => (∃ b, e = .returned (.bool b) ∧ (b = true ↔ Nrm l)) ∧ Below w.heap.size w w' := by
  obtain ⟨p, cap, rfl⟩ := hs.form
  have HS := Lib.hid hs
  have HI := Lib.hid hin
  obtain ⟨n, hn'⟩ : ∃ n, n = l.length := ⟨_, rfl⟩
  rw [← hn'] at hl HS ⊢
  have HL := Lib.hid hn'
  clear hs hin hn'
  go_enter Try.func18, Try.ntmps18
  go_wp2_with fail
  go_loopw [7] (fun i wr => ∃ k : Nat, k ≤ n ∧ i = .int .i64 k ∧ Hid (∀ j, j < k → rgt1 l j = true) ∧ Hid (Below w.heap.size w wr)) (fun i _ => n - (intOf i).toNat)
  case atStart => exact ⟨0, Nat.zero_le _, rfl, Lib.hid (fun j hj => by omega), Lib.hid (Below.refl _ w)⟩
  case round =>
    obtain ⟨k, hk, rfl, R, B⟩ := hrel
    by_cases hlt : k < n
    · have hkl : k < l.length := by rw [← HL.out]; exact hlt
      obtain ⟨b, o, rfl, c1, c2⟩ := (HS.out.kb B.out).at hkl
      have hk' : (k : Int) < n := by omega
      have hr := two_range c1 c2
      obtain ⟨s, hs⟩ : ∃ s, s = l[k] := ⟨_, rfl⟩
      have hsk : l[k]? = some s := by rw [hs]; exact List.getElem?_eq_getElem hkl
      have hin := HI.out s (List.mem_of_getElem? hsk)
      rw [← hs] at hr c1 c2
      have HSK := Lib.hid hsk
      clear hs hsk
      have B1 := Lib.hid (B.out.alloc B.out.size (.cells #[.int .i64 s.1, .int .i64 s.2] 23))
      have hw : wrap64 ((k : Int) - 1) = (k : Int) - 1 := by unfold wrap64; omega
      by_cases g1 : s.1 < 0
      · have G1 := Lib.hid g1
        have d1 : decide (s.1 < 0) = true := by simpa using g1
        go_wp2_with (first
          | (refine load_to (cs := [.int .i64 s.1, .int .i64 s.2]) hr Try.underlying23 rfl spsize ?hx ?_; (case hx => rfl)))
        go_quiet (fail)
        go_wp2_with fail
        go_ret
        exact ⟨⟨false, rfl, right_no HSK.out (rgt_1 HSK.out G1.out)⟩, below_drn10 B1.out _⟩
      · have G1 : Hid (0 ≤ s.1) := Lib.hid (by omega)
        have d1 : decide (s.1 < 0) = false := by simpa using g1
        by_cases g2 : s.1 > s.2
        · have G2 := Lib.hid g2
          have d2 : decide (s.1 > s.2) = true := by simpa using g2
          have d2' : decide (s.2 < s.1) = true := by simpa using g2
          go_wp2_with (first
            | (refine load_to (cs := [.int .i64 s.1, .int .i64 s.2]) hr Try.underlying23 rfl spsize ?hx ?_; (case hx => rfl)))
          go_quiet (fail)
          go_wp2_with fail
          go_ret
          exact ⟨⟨false, rfl, right_no HSK.out (rgt_2 HSK.out G2.out)⟩, below_drn10 B1.out _⟩
        · have G2 : Hid (s.1 ≤ s.2) := Lib.hid (by omega)
          have d2 : decide (s.1 > s.2) = false := by simpa using g2
          have d2' : decide (s.2 < s.1) = false := by simpa using g2
          cases k with
          | zero =>
            have d3 : decide (((0 : Nat) : Int) > 0) = false := by decide
            go_wp2_with (first
              | (refine load_to (cs := [.int .i64 s.1, .int .i64 s.2]) hr Try.underlying23 rfl spsize ?hx ?_; (case hx => rfl)))
            go_quiet (fail)
            go_wp2_with fail
            exact ⟨⟨1, by omega, rfl, Lib.hid (right_next (k := 0) R.out (rgt_3 HSK.out G1.out G2.out)), Lib.hid (below_drn10 B1.out _)⟩, by simp [intOf]; omega⟩
          | succ k =>
            have hkl' : k < l.length := by omega
            obtain ⟨b', o', e', c1', c2'⟩ := (HS.out.kb B.out).at hkl'
            injection e' with e'
            injection e' with e1 e2
            subst e1 e2
            obtain ⟨t, ht⟩ : ∃ t, t = l[k] := ⟨_, rfl⟩
            have htk : l[k]? = some t := by rw [ht]; exact List.getElem?_eq_getElem hkl'
            rw [← ht] at c1' c2'
            have HTK := Lib.hid htk
            clear ht htk
            have d3 : decide (((k + 1 : Nat) : Int) > 0) = true := by simp
            have d3' : decide (0 < ((k + 1 : Nat) : Int)) = true := by simp
            have hw2 : wrap64 (((k + 1 : Nat) : Int) - 1) = (k : Nat) := by unfold wrap64; omega
            have hin' : s.2 < 9223372036854775808 := by unfold topN at hin; omega
            have hap := fun W => apart_to W t s (by omega) (by omega)
            obtain ⟨g3, hg3⟩ : ∃ g3, g3 = decide (t.2 < s.1 - 1) := ⟨_, rfl⟩
            rw [← hg3] at hap
            have G3 := Lib.hid hg3
            have HAP := Lib.hid hap
            clear hg3 hap
            go_wp2_with (first
              | (refine load_to (cs := [.int .i64 s.1, .int .i64 s.2]) hr Try.underlying23 rfl spsize ?hx ?_; (case hx => rfl)))
            obtain ⟨B0, hB0⟩ : ∃ B0, B0 = wr.heap.size := ⟨_, rfl⟩
            have b0 := (Below.refl wr.heap.size wr).alloc (Nat.le_refl _) (.cells #[.int .i64 s.1, .int .i64 s.2] 23)
            have n0 := heap_alloc_last wr (.cells #[.int .i64 s.1, .int .i64 s.2] 23)
            have z1 := (b0.cell (p := ⟨b, o + k * 2, none⟩) (World.block_lt_of_cell? _ _ c1')).trans c1'
            have z2 := (b0.cell (p := ⟨b, o + k * 2 + 1, none⟩) (World.block_lt_of_cell? _ _ c2')).trans c2'
            rw [← hB0] at n0 ⊢
            clear b0 c1 c2 c1' c2' hr
            generalize wr.alloc (.cells #[.int .i64 s.1, .int .i64 s.2] 23) = W1 at *
            have N0 := Lib.hid n0
            have Z1 := Lib.hid z1
            have Z2 := Lib.hid z2
            obtain ⟨z3, z4⟩ := sp_cells n0
            clear n0 hB0
            try simp only [List.append]
            refine wp_region_noPanic ?_
            refine wp_region_held_drew (S := (fun W => (W.cell? ⟨B0, 0, none⟩ = some (.int .i64 s.1) ∧ W.cell? ⟨B0, 1, none⟩ = some (.int .i64 s.2)) ∧ W.cell? ⟨b, o + k * 2, none⟩ = some (.int .i64 t.1) ∧ W.cell? ⟨b, o + k * 2 + 1, none⟩ = some (.int .i64 t.2))) (by kernel_rfl) ⟨⟨z3, z4⟩, z1, z2⟩ (fun hHeld => ?_)
            have hk2 : (k : Int) < n := by omega
            have hw4 : wrap64 ((k : Int) + 1 - 1) = (k : Int) := by unfold wrap64; omega
            have hw5 : IntKind.i64.wrap (k : Int) = (k : Int) := by rw [wrap64_eq]; unfold wrap64; omega
            refine wpAnyH_take (i := 0) (v := ?_) (by simp only [List.getElem?_toArray, List.getElem?_cons_zero]; rfl) (by kernel_rfl) (by kernel_rfl) (by kernel_rfl) (fun _ _ _ h => h) (Or.inl ⟨by rfl, ?_⟩) (by assumption) ?_
            rotate_left
            · intro w hSw
              try dsimp only at hSw
              go_simp
              try with_reducible rfl
            try simp only [Act.put, List.setIfInBounds_toArray, List.set_cons_zero, List.set_cons_succ]
            refine wpAnyH_take (i := 1) (v := ?_) (by simp only [List.getElem?_toArray, List.getElem?_cons_succ, List.getElem?_cons_zero]; rfl) (by kernel_rfl) (by kernel_rfl) (by kernel_rfl) (fun _ _ _ h => h) (Or.inl ⟨by rfl, ?_⟩) (by assumption) ?_
            rotate_left
            · intro w hSw
              try dsimp only at hSw
              go_simp
              try with_reducible rfl
            try simp only [Act.put, List.setIfInBounds_toArray, List.set_cons_zero, List.set_cons_succ]
            refine wpAnyH_take (i := 2) (v := ?_) (by simp only [List.getElem?_toArray, List.getElem?_cons_succ, List.getElem?_cons_zero]; rfl) (by kernel_rfl) (by kernel_rfl) (by kernel_rfl) (fun _ _ _ h => h) (Or.inl ⟨by rfl, ?_⟩) (by assumption) ?_
            rotate_left
            · intro w hSw
              try dsimp only at hSw
              go_simp
              try with_reducible rfl
            try simp only [Act.put, List.setIfInBounds_toArray, List.set_cons_zero, List.set_cons_succ]
            refine wpAnyH_take (i := 3) (v := ?_) (by simp only [List.getElem?_toArray, List.getElem?_cons_succ, List.getElem?_cons_zero]; rfl) (by kernel_rfl) (by kernel_rfl) (by kernel_rfl) (fun _ _ _ h => h) (Or.inl ⟨by rfl, ?_⟩) (by assumption) ?_
            rotate_left
            · intro w hSw
              try dsimp only at hSw
              go_simp
              try with_reducible rfl
            try simp only [Act.put, List.setIfInBounds_toArray, List.set_cons_zero, List.set_cons_succ]
            refine wpAnyH_take (i := 4) (v := ?_) (by simp only [List.getElem?_toArray, List.getElem?_cons_succ, List.getElem?_cons_zero]; rfl) (by kernel_rfl) (by kernel_rfl) (by kernel_rfl) (fun _ _ _ h => h) (Or.inl ⟨by rfl, ?_⟩) (by assumption) ?_
            rotate_left
            · intro w hSw
              try dsimp only at hSw
              go_simp
              try with_reducible rfl
            try simp only [Act.put, List.setIfInBounds_toArray, List.set_cons_zero, List.set_cons_succ]
            refine wpAnyH_take (i := 5) (v := ?_) (by simp only [List.getElem?_toArray, List.getElem?_cons_succ, List.getElem?_cons_zero]; rfl) (by kernel_rfl) (by kernel_rfl) (by kernel_rfl) (fun _ _ _ h => h) (Or.inl ⟨by rfl, ?_⟩) (by assumption) ?_
            rotate_left
            · intro w hSw
              try dsimp only at hSw
              go_simp
              try with_reducible rfl
            try simp only [Act.put, List.setIfInBounds_toArray, List.set_cons_zero, List.set_cons_succ]
            refine wpAnyH_take (i := 6) (v := ?_) (by simp only [List.getElem?_toArray, List.getElem?_cons_succ, List.getElem?_cons_zero]; rfl) (by kernel_rfl) (by kernel_rfl) (by kernel_rfl) (fun _ _ _ h => h) (Or.inl ⟨by rfl, ?_⟩) (by assumption) ?_
            rotate_left
            · intro w hSw
              try dsimp only at hSw
              go_simp
              try with_reducible rfl
            try simp only [Act.put, List.setIfInBounds_toArray, List.set_cons_zero, List.set_cons_succ]
            refine wpAnyH_take (i := 7) (v := ?_) (by simp only [List.getElem?_toArray, List.getElem?_cons_succ, List.getElem?_cons_zero]; rfl) (by kernel_rfl) (by kernel_rfl) (by kernel_rfl) (fun _ _ _ h => h) (Or.inl ⟨by rfl, ?_⟩) (by assumption) ?_
            rotate_left
            · intro w hSw
              try dsimp only at hSw
              go_simp
              try with_reducible rfl
            try simp only [Act.put, List.setIfInBounds_toArray, List.set_cons_zero, List.set_cons_succ]
            refine wpAnyH_take (i := 8) (v := ?_) (by simp only [List.getElem?_toArray, List.getElem?_cons_succ, List.getElem?_cons_zero]; rfl) (by kernel_rfl) (by kernel_rfl) (by kernel_rfl) (fun _ _ _ h => h) (Or.inl ⟨by rfl, ?_⟩) (by assumption) ?_
            rotate_left
            · intro w hSw
              try dsimp only at hSw
              go_simp
              try with_reducible rfl
            try simp only [Act.put, List.setIfInBounds_toArray, List.set_cons_zero, List.set_cons_succ]
            refine wpAnyH_take (i := 9) (v := ?_) (by simp only [List.getElem?_toArray, List.getElem?_cons_succ, List.getElem?_cons_zero]; rfl) (by kernel_rfl) (by kernel_rfl) (by kernel_rfl) (fun _ _ _ h => h) (Or.inl ⟨by rfl, ?_⟩) (by assumption) ?_
            rotate_left
            · intro w hSw
              try dsimp only at hSw
              go_simp
              try with_reducible rfl
            try simp only [Act.put, List.setIfInBounds_toArray, List.set_cons_zero, List.set_cons_succ]
            refine wpAnyH_take (i := 10) (v := ?_) (by simp only [List.getElem?_toArray, List.getElem?_cons_succ, List.getElem?_cons_zero]; rfl) (by kernel_rfl) (by kernel_rfl) (by kernel_rfl) (fun _ _ _ h => h) (Or.inl ⟨by rfl, ?_⟩) (by assumption) ?_
            rotate_left
            · intro w hSw
              try dsimp only at hSw
              go_simp
              try with_reducible rfl
            try simp only [Act.put, List.setIfInBounds_toArray, List.set_cons_zero, List.set_cons_succ]
            refine wpAnyH_take (i := 11) (v := ?_) (by simp only [List.getElem?_toArray, List.getElem?_cons_succ, List.getElem?_cons_zero]; rfl) (by kernel_rfl) (by kernel_rfl) (by kernel_rfl) (fun _ _ _ h => h) (Or.inl ⟨by rfl, ?_⟩) (by assumption) ?_
            rotate_left
            · intro w hSw
              try dsimp only at hSw
              go_simp
              try with_reducible rfl
            try simp only [Act.put, List.setIfInBounds_toArray, List.set_cons_zero, List.set_cons_succ]
            refine wpAnyH_take (i := 12) (v := ?_) (by simp only [List.getElem?_toArray, List.getElem?_cons_succ, List.getElem?_cons_zero]; rfl) (by kernel_rfl) (by kernel_rfl) (by kernel_rfl) (fun _ _ _ h => h) (Or.inl ⟨by rfl, ?_⟩) (by assumption) ?_
            rotate_left
            · intro w hSw
              try dsimp only at hSw
              go_simp
              try with_reducible rfl
            try simp only [Act.put, List.setIfInBounds_toArray, List.set_cons_zero, List.set_cons_succ]
            refine wpAnyH_take (i := 13) (v := ?_) (by simp only [List.getElem?_toArray, List.getElem?_cons_succ, List.getElem?_cons_zero]; rfl) (by kernel_rfl) (by kernel_rfl) (by kernel_rfl) (fun _ _ _ h => h) (Or.inl ⟨by rfl, ?_⟩) (by assumption) ?_
            rotate_left
            · intro w hSw
              try dsimp only at hSw
              go_simp
              try with_reducible rfl
            try simp only [Act.put, List.setIfInBounds_toArray, List.set_cons_zero, List.set_cons_succ]
            refine wpAnyH_take (i := 14) (v := ?_) (by simp only [List.getElem?_toArray, List.getElem?_cons_succ, List.getElem?_cons_zero]; rfl) (by kernel_rfl) (by kernel_rfl) (by kernel_rfl) (fun _ _ _ h => h) (Or.inl ⟨by rfl, ?_⟩) (by assumption) ?_
            rotate_left
            · intro w hSw
              try dsimp only at hSw
              go_simp
              try with_reducible rfl
            try simp only [Act.put, List.setIfInBounds_toArray, List.set_cons_zero, List.set_cons_succ]
            refine wpAnyH_take (i := 15) (v := ?_) (by simp only [List.getElem?_toArray, List.getElem?_cons_succ, List.getElem?_cons_zero]; rfl) (by kernel_rfl) (by kernel_rfl) (by kernel_rfl) (fun _ _ _ h => h) (Or.inl ⟨by rfl, ?_⟩) (by assumption) ?_
            rotate_left
            · intro w hSw
              try dsimp only at hSw
              go_simp
              try with_reducible rfl
            try simp only [Act.put, List.setIfInBounds_toArray, List.set_cons_zero, List.set_cons_succ]
            refine wpAnyH_take (i := 16) (v := (.int .i64 (k : Nat))) (by simp only [List.getElem?_toArray, List.getElem?_cons_succ, List.getElem?_cons_zero]; rfl) (by kernel_rfl) (by kernel_rfl) (by kernel_rfl) (fun _ _ _ h => h) (Or.inl ⟨by rfl, ?_⟩) (by assumption) ?_
            · intro w hSw
              try dsimp only at hSw
              go_simp
            try simp only [Act.put, List.setIfInBounds_toArray, List.set_cons_zero, List.set_cons_succ]
            refine wpAnyH_take (i := 17) (v := ?_) (by simp only [List.getElem?_toArray, List.getElem?_cons_succ, List.getElem?_cons_zero]; rfl) (by kernel_rfl) (by kernel_rfl) (by kernel_rfl) (fun _ _ _ h => h) (Or.inl ⟨by rfl, ?_⟩) (by assumption) ?_
            rotate_left
            · intro w hSw
              try dsimp only at hSw
              go_simp
              try with_reducible rfl
            try simp only [Act.put, List.setIfInBounds_toArray, List.set_cons_zero, List.set_cons_succ]
            refine wpAnyH_take (i := 18) (v := (.agg #[.int .i64 t.1, .int .i64 t.2])) (by simp only [List.getElem?_toArray, List.getElem?_cons_succ, List.getElem?_cons_zero]; rfl) (by kernel_rfl) (by kernel_rfl) (by kernel_rfl) (fun _ _ _ h => h) (Or.inl ⟨by rfl, ?_⟩) (by assumption) ?_
            · intro w hSw
              try dsimp only at hSw
              go_simp
            try simp only [Act.put, List.setIfInBounds_toArray, List.set_cons_zero, List.set_cons_succ]
            refine wpAnyH_take (i := 19) (v := (.agg #[.int .i64 s.1, .int .i64 s.2])) (by simp only [List.getElem?_toArray, List.getElem?_cons_succ, List.getElem?_cons_zero]; rfl) (by kernel_rfl) (by kernel_rfl) (by kernel_rfl) (fun _ _ _ h => h) (Or.inl ⟨by rfl, ?_⟩) (by assumption) ?_
            · intro w hSw
              try dsimp only at hSw
              go_simp
            try simp only [Act.put, List.setIfInBounds_toArray, List.set_cons_zero, List.set_cons_succ]
            refine wpAnyH_ready (rs := [20]) (by kernel_rfl) (by simp) ?_
            refine AllReadyH.cons (by simp only [List.getElem?_toArray, List.getElem?_cons_succ, List.getElem?_cons_zero]; rfl) (fun K hK => ?_) AllReadyH.nil
            go_simp
            refine (HAP.out W1.drew).mono ?_
            rintro e w2 ⟨rfl, b2⟩
            have B2 := Lib.hid (below_drew_then B1.out b2)
            obtain ⟨y3, y4⟩ := sp_cells ((b2.block B0 (Array.getElem?_eq_some_iff.1 N0.out).1).trans N0.out)
            have y1 := (b2.cell (p := ⟨b, o + k * 2, none⟩) (World.block_lt_of_cell? W1 _ Z1.out)).trans Z1.out
            have y2 := (b2.cell (p := ⟨b, o + k * 2 + 1, none⟩) (World.block_lt_of_cell? W1 _ Z2.out)).trans Z2.out
            clear b2
            go_wp2_with fail
            refine hK.out _ _ ⟨⟨y3, y4⟩, y1, y2⟩ (fun hHeld => ?_)
            clear hK K
            try simp only [Act.put, List.setIfInBounds_toArray, List.set_cons_zero, List.set_cons_succ]
            cases g3 with
            | true =>
              refine wpAnyH_take (i := 21) (v := ?_) (by simp only [List.getElem?_toArray, List.getElem?_cons_succ, List.getElem?_cons_zero]; rfl) (by kernel_rfl) (by kernel_rfl) (by kernel_rfl) (fun _ _ _ h => h) (Or.inl ⟨by rfl, ?_⟩) (by assumption) ?_
              rotate_left
              · intro w hSw
                try dsimp only at hSw
                go_simp
                try with_reducible rfl
              try simp only [Act.put, List.setIfInBounds_toArray, List.set_cons_zero, List.set_cons_succ]
              refine wpAnyH_take (i := 22) (v := ?_) (by simp only [List.getElem?_toArray, List.getElem?_cons_succ, List.getElem?_cons_zero]; rfl) (by kernel_rfl) (by kernel_rfl) (by kernel_rfl) (fun _ _ _ h => h) (Or.inl ⟨by rfl, ?_⟩) (by assumption) ?_
              rotate_left
              · intro w hSw
                try dsimp only at hSw
                go_simp
                try with_reducible rfl
              try simp only [Act.put, List.setIfInBounds_toArray, List.set_cons_zero, List.set_cons_succ]
              refine wpAnyH_take (i := 23) (v := ?_) (by simp only [List.getElem?_toArray, List.getElem?_cons_succ, List.getElem?_cons_zero]; rfl) (by kernel_rfl) (by kernel_rfl) (by kernel_rfl) (fun _ _ _ h => h) (Or.inl ⟨by rfl, ?_⟩) (by assumption) ?_
              rotate_left
              · intro w hSw
                try dsimp only at hSw
                go_simp
                try with_reducible rfl
              try simp only [Act.put, List.setIfInBounds_toArray, List.set_cons_zero, List.set_cons_succ]
              refine wpAnyH_done (by kernel_rfl) ?_ _
              refine NoPanic.normal ?_
              go_wp2_with fail
              exact ⟨⟨k + 2, by omega, by go_num, Lib.hid (right_next (k := k + 1) R.out (by rw [rgt_4 HSK.out HTK.out G1.out G2.out, ← G3.out])), B2⟩, by simp [intOf]; omega⟩
            | false =>
              refine wpAnyH_take (i := 21) (v := ?_) (by simp only [List.getElem?_toArray, List.getElem?_cons_succ, List.getElem?_cons_zero]; rfl) (by kernel_rfl) (by kernel_rfl) (by kernel_rfl) (fun _ _ _ h => h) (Or.inl ⟨by rfl, ?_⟩) (by assumption) ?_
              rotate_left
              · intro w hSw
                try dsimp only at hSw
                go_simp
                try with_reducible rfl
              try simp only [Act.put, List.setIfInBounds_toArray, List.set_cons_zero, List.set_cons_succ]
              refine wpAnyH_take (i := 22) (v := ?_) (by simp only [List.getElem?_toArray, List.getElem?_cons_succ, List.getElem?_cons_zero]; rfl) (by kernel_rfl) (by kernel_rfl) (by kernel_rfl) (fun _ _ _ h => h) (Or.inl ⟨by rfl, ?_⟩) (by assumption) ?_
              rotate_left
              · intro w hSw
                try dsimp only at hSw
                go_simp
                try with_reducible rfl
              try simp only [Act.put, List.setIfInBounds_toArray, List.set_cons_zero, List.set_cons_succ]
              refine wpAnyH_take (i := 23) (v := ?_) (by simp only [List.getElem?_toArray, List.getElem?_cons_succ, List.getElem?_cons_zero]; rfl) (by kernel_rfl) (by kernel_rfl) (by kernel_rfl) (fun _ _ _ h => h) (Or.inl ⟨by rfl, ?_⟩) (by assumption) ?_
              rotate_left
              · intro w hSw
                try dsimp only at hSw
                go_simp
                try with_reducible rfl
              try simp only [Act.put, List.setIfInBounds_toArray, List.set_cons_zero, List.set_cons_succ]
              refine wpAnyH_done (by kernel_rfl) ?_ _
              refine NoPanic.normal ?_
              go_wp2_with fail
              go_ret
              exact ⟨⟨false, rfl, right_no HSK.out (by rw [rgt_4 HSK.out HTK.out G1.out G2.out, ← G3.out])⟩, B2.out⟩
    · obtain rfl : k = n := by omega
      go_wp2_with fail
      go_ret
      exact ⟨⟨true, rfl, by simp; exact nrm_iff.1 (fun j hj => R.out j (by rw [HL.out]; exact hj))⟩, B.out⟩
end Go.Proofs.Ytpjfgkjhhmfhkaa
