/- Package flat: Right; slices.Clone of numbers; the heads: add. Conditions: no more than a million of each. -/
import Derived.Test.YtadglppplgeldaaFltR
import Derived.Test.YtadglppplgeldaaGenApp
import Derived.Test.YtadglppplgeldaaGenOps
namespace Go.Proofs.Ytadglppplgeldaa
open Go.RowKit
set_option maxRecDepth 20000

theorem LS.len {B : Nat} {w : World} {p : Option Addr} {n c : Nat} {L : List (List Int)} (h : LS B w (.slice p n c) L) : n = L.length ∧ n ≤ c := by
  obtain ⟨p', c', e, hc, _⟩ := h
  injection e with _ e2 e3
  exact ⟨e2, by omega⟩
set_option maxHeartbeats 4000000 in
theorem right5_to (w : World) (B : Nat) (M O : List (List Int)) (p q : Option Addr) (n c m d : Nat) (hM : LS B w (.slice p n c) M) (hO : LS B w (.slice q m d) O) (hn : n ≤ 1000000) (hm : m ≤ 1000000) :
    Calls Try.prog 12 #[tv p n c q m d] w fun e w' => (∃ b, e = .returned (.bool b) ∧ (b = true ↔ okt M O)) ∧ Below w.heap.size w w' := by
  have B0 := Lib.hid ((Below.refl w.heap.size w).alloc (Nat.le_refl _) (.cells #[.slice p n c, .slice q m d] 25))
  have HT := Lib.hid (heap_alloc_last w (.cells #[.slice p n c, .slice q m d] 25))
  have HNM := Lib.hid hM.len.1
  have HNO := Lib.hid hO.len.1
  have HA1 := Lib.hid (fun W (hW : Below w.heap.size w W) => allows_to W B p q n c m d hn hm 0 (.inl rfl) _ M (hM.kb hW) (hM.len.1 ▸ hn))
  have HA2 := Lib.hid (fun W (hW : Below w.heap.size w W) => allows_to W B p q n c m d hn hm spl (.inr rfl) _ O (hO.kb hW) (hO.len.1 ▸ hm))
  clear hM hO hn hm
  go_enter Try.func12, Try.ntmps12
  go_wp2_with fail
  generalize w.alloc (.cells #[.slice p n c, .slice q m d] 25) = w0 at *
  have hr0 := cell_ob5 HT.out 0 rfl
  have hr1 := cell_ob5 HT.out 1 rfl
  refine (HA1.out w0 B0.out).mono ?_
  rintro e w1 ⟨⟨b1, rfl, h1⟩, k1⟩
  have H1 := Lib.hid h1
  have B1 := Lib.hid (B0.out.trans (k1.mono B0.out.size))
  have HT1 := Lib.hid ((k1.block _ (Array.getElem?_eq_some_iff.1 HT.out).1).trans HT.out)
  clear h1 k1 hr0 hr1
  have hr0 := cell_ob5 HT1.out 0 rfl
  have hr1 := cell_ob5 HT1.out 1 rfl
  cases b1 with
  | false =>
    go_wp2_with fail
    go_ret
    refine ⟨⟨false, rfl, ⟨fun h => (by cases h), fun h => ?_⟩⟩, B1.out⟩
    have h2 := h.1
    rw [← HNM.out, ← HNO.out] at h2
    exact H1.out.2 h2
  | true =>
    go_wp2_with fail
    refine (HA2.out w1 B1.out).mono ?_
    rintro e w2 ⟨⟨b2, rfl, h2⟩, k2⟩
    have H2 := Lib.hid h2
    have B2 := Lib.hid (B1.out.trans (k2.mono B1.out.size))
    clear h2 k2 hr0 hr1
    go_wp2_with fail
    go_ret
    refine ⟨⟨b2, by simp, ?_⟩, B2.out⟩
    unfold okt
    rw [← HNM.out, ← HNO.out]
    exact ⟨fun h => ⟨H1.out.1 (by decide), H2.out.1 h⟩, fun h => H2.out.2 h.2⟩
theorem iinfo : (Try.prog.info? 3).map (fun i => (i.zero, i.size, i.bytes)) = some (some (.int .i64 0), 1, 8) := by kernel_rfl
theorem gb_set (w : World) (b i : Nat) (v : Value) : w.grownBy (w.setCell ⟨b, i, none⟩ v) (some b) :=
  ⟨rfl, rfl, rfl, by simp, fun k _ hk => heap_setCell_other w ⟨b, i, none⟩ k v (fun e => hk (by simp [e]))⟩
theorem ints_one (l : List Int) : ∀ u ∈ l.map (Value.int .i64), u.oneCell' = true := fun u hu => by
  obtain ⟨x, _, rfl⟩ := List.mem_map.1 hu
  rfl
set_option maxHeartbeats 800000 in
theorem nclone_to (w : World) (v : Value) (l : List Int) (hs : NSeen w v l) (hl : l.length ≤ 1000000) :
    Calls Try.prog 36 #[v] w fun e w' => ∃ v', e = .returned v' ∧ JOwn w' w.heap.size v' l ∧ Below w.heap.size w w' := by
  obtain ⟨i0, hi0, hz0, hz1, hz2⟩ := info_parts iinfo
  obtain ⟨p, cap, rfl, hc, hs⟩ := hs
  cases p with
  | none =>
    obtain rfl : l = [] := by
      cases l with
      | nil => rfl
      | cons x l => obtain ⟨a, e, _⟩ := hs 0 x rfl; cases e
    have hn1 : ∀ w : World, (binOp .eql 22 (.slice none 0 cap) (.slice none 0 0)).run Try.prog w = .ok (.bool true) w := fun w => Lib.run_eql_slice_nil w _ _ none _ _ _ _ Try.underlying22
    clear hl hs
    go_enter Try.func36, Try.ntmps36
    go_wp2_with fail
    go_ret
    exact ⟨_, rfl, World.ownsRow_nil _ _ _ _, Below.refl _ _⟩
  | some a =>
    have hown := World.ownsRow_made (base := w.heap.size) (e := 3) (size := 1) w #[] 0 (Nat.le_refl _) (by decide) rfl
    have hn1 : ∀ w : World, (binOp .eql 22 (.slice (some a) l.length cap) (.slice none 0 0)).run Try.prog w = .ok (.bool false) w := fun w => Lib.run_eql_slice_nil w _ _ (some a) _ _ _ _ Try.underlying22
    have hnews : Hid (∀ j u, (l.map (Value.int .i64))[j]? = some u → (w.alloc (.cells #[] 3)).cell? (a.add j) = some u) := Lib.hid fun j u hj => by
      rw [List.getElem?_map] at hj
      cases hx : l[j]? with
      | none => rw [hx] at hj; cases hj
      | some x =>
        rw [hx] at hj
        obtain rfl : Value.int .i64 x = u := by simpa using hj
        obtain ⟨a', e, h1⟩ := hs j x hx
        injection e with e
        subst e
        have h2 := World.block_lt_of_cell? w _ h1
        rw [World.cell?_of_block (w := w) (Below.heap_alloc w _ _ h2)]; exact h1
    have HLE : Hid ((l.map (Value.int .i64)).length = l.length * 1) := Lib.hid (by simp)
    clear hs
    go_enter Try.func36, Try.ntmps36
    go_wp2_with (at_builtin; refine wpList_append_own _ (by rfl) (.tmp 5) (.tmp 6) _ (by rfl) w.heap.size 3 i0 _ 1 8 Try.underlying22 hi0 hz0 hz1 hz2 rfl (by omega) (.slice (some ⟨w.heap.size, 0, none⟩) 0 0) 0 [] (by rfl) hown a l.length cap (l.map (Value.int .i64)) (by rfl) HLE.out hnews.out (ints_one l) (by simp [maxLen]; omega) (by omega) (by simp) ?_; intro v' w' hown' hgrow _)
    go_ret
    exact ⟨v', rfl, by simpa using hown', ((Below.refl _ _).alloc (Nat.le_refl _) _).grown hgrow (by simp) (by intro k hk; cases hk; exact Nat.le_refl _)⟩
/-- The heads in memory. -/
structure HA (w : World) (R hb : Nat) (low : Int) (p : Option Addr) (n c : Nat) (m : List Bool) : Prop where
  cell : w.heap[hb]? = some (.cells #[.int .i64 low, .slice p n c, .int .i64 (m.count false : Nat)] 71 (0, 0))
  row : w.ownsRow R 4 1 (.slice p n c) m.length (m.map Value.bool)
abbrev hp (b : Nat) : Value := .pointer (some ⟨b, 0, none⟩)
theorem HA.kb {w w' : World} {R hb : Nat} {low : Int} {p : Option Addr} {n c : Nat} {m : List Bool} (h : HA w R hb low p n c m) (k : Below w.heap.size w w') : HA w' R hb low p n c m :=
  ⟨(k.block hb (Array.getElem?_eq_some_iff.1 h.cell).1).trans h.cell, ownsRow_kb h.row k⟩
theorem HA.len {w : World} {R hb : Nat} {low : Int} {p : Option Addr} {n c : Nat} {m : List Bool} (h : HA w R hb low p n c m) : n = m.length := by
  rcases h.row.2 with ⟨h1, h2⟩ | ⟨g, cap, cur, h1, _⟩
  · injection h1 with _ h1 _; omega
  · injection h1 with _ h1 _
theorem HA.at {w : World} {R hb : Nat} {low : Int} {p : Option Addr} {n c : Nat} {m : List Bool} (h : HA w R hb low p n c m) {k : Nat} (hk : k < m.length) : ∃ g, p = some ⟨g, 0, none⟩ ∧ g ≠ hb ∧ g < w.heap.size ∧ w.cell? ⟨g, k, none⟩ = some (.bool m[k]) ∧ w.frozen? ⟨g, k, none⟩ = false := by
  have hr := h.row
  rcases hr.2 with ⟨h1, h2⟩ | ⟨g, cap, cur, h1, _, hg, _⟩
  · omega
  · injection h1 with h1 _ _
    subst h1
    refine ⟨g, rfl, fun e => ?_, (Array.getElem?_eq_some_iff.1 hg).1, ?_, ?_⟩
    · subst e
      rw [h.cell] at hg
      injection hg with hg
      injection hg with _ hg _
      exact absurd hg (by decide)
    · have := hr.cells (g := g) rfl k (.bool m[k]) (by rw [List.getElem?_map, List.getElem?_eq_getElem hk]; rfl)
      simpa [Addr.add_lit] using this
    · exact frozen_of_row w g k cur _ hg
theorem HA.mark {w : World} {R hb : Nat} {low : Int} {g n c : Nat} {m : List Bool} (h : HA w R hb low (some ⟨g, 0, none⟩) n c m) (hg : g ≠ hb) {k : Nat} (hk : m[k]? = some false) :
    HA ((w.setCell ⟨g, k, none⟩ (.bool true)).setCell ⟨hb, 2, none⟩ (.int .i64 ((m.count false : Int) - 1))) R hb low (some ⟨g, 0, none⟩) n c (m.set k true) := by
  have hc := cnt_set m k hk
  have hl := h.len
  have h1 : (w.setCell ⟨g, k, none⟩ (.bool true)).heap[hb]? = some (.cells [.int .i64 low, .slice (some ⟨g, 0, none⟩) n c, .int .i64 (m.count false : Nat)].toArray 71 (0, 0)) := (Below.heap_setCell _ _ _ _ (fun e => hg e.symm)).trans h.cell
  have h2 := cells_set (j := 2) h1 (.int .i64 ((m.count false : Int) - 1))
  refine ⟨?_, ?_⟩
  · rw [h2]
    have e : ((m.count false : Int) - 1) = ((m.set k true).count false : Nat) := by omega
    rw [e]; rfl
  · have hr := h.row
    rw [hl] at hr
    have h3 := (hr.stored k (.bool true)).1
    rw [List.length_set, List.map_set, hl]
    exact h3.kept (gb_set _ hb 2 _) (.inr (fun e => hg (by simpa [Value.ownBlock] using e)))
/-- A mark is set. -/
theorem HA.set1 {w : World} {R hb : Nat} {low : Int} {g n c : Nat} {m : List Bool} (h : HA w R hb low (some ⟨g, 0, none⟩) n c m) (hg : g ≠ hb) (k : Nat) :
    (w.setCell ⟨g, k, none⟩ (.bool true)).heap[hb]? = some (.cells #[.int .i64 low, .slice (some ⟨g, 0, none⟩) n c, .int .i64 (m.count false : Nat)] 71 (0, 0)) ∧ (w.setCell ⟨g, k, none⟩ (.bool true)).frozen? ⟨hb, 2, none⟩ = false := by
  have h1 := (Below.heap_setCell w ⟨g, k, none⟩ (.bool true) hb (fun e => hg e.symm)).trans h.cell
  exact ⟨h1, frozen_of_row _ hb 2 _ _ h1⟩
theorem HA.mi {w w' : World} {B R hb : Nat} {low : Int} {g n c : Nat} {m : List Bool} (h : HA w R hb low (some ⟨g, 0, none⟩) n c m) (hB : B ≤ hb) (hR : B ≤ R) (o : Only (fun k => k = hb ∨ k = g) w w') : Mi B w w' := by
  refine ⟨o.mono fun k _ e => ?_⟩
  rcases e with rfl | rfl
  · exact ⟨hB, fun cs f e2 => by rw [h.cell] at e2; injection e2 with e2; injection e2 with _ e2 _; exact absurd e2 (by decide)⟩
  · rcases h.row.2 with ⟨h1, _⟩ | ⟨g', cap, cur, h1, hb', hg, _⟩
    · cases h1
    · injection h1 with h1 _ _
      injection h1 with h1
      injection h1 with h1 _ _
      subst h1
      exact ⟨Nat.le_trans hR hb', fun cs f e2 => by rw [hg] at e2; injection e2 with e2; injection e2 with _ e2 _; exact absurd e2 (by decide)⟩
theorem binfo : (Try.prog.info? 4).map (fun i => (i.zero, i.size, i.bytes)) = some (some (.bool false), 1, 1) := by kernel_rfl
theorem mks_take {low : Int} {m : List Bool} {ps : List Int} {i : Nat} {p : Int} (h : ps[i]? = some p) : mks low m (ps.take (i + 1)) = mk1 low (mks low m (ps.take i)) p := by
  rw [List.take_add_one, h]; exact mks_snoc _ _ _ _
theorem mk1_skip {low : Int} {m : List Bool} {p : Int} (h : p < low) : mk1 low m p = m := by unfold mk1; rw [if_neg (by omega)]
theorem mk1_same {low : Int} {m : List Bool} {k : Nat} (h : m[k]? = some true) : mk1 low m (low + k) = m := by
  unfold mk1; rw [if_pos (by omega), show (low + (k : Int) - low).toNat = k by omega]; exact set_same m k h
theorem mk1_set {low : Int} {m : List Bool} {k : Nat} : mk1 low m (low + k) = m.set k true := by
  unfold mk1; rw [if_pos (by omega), show (low + (k : Int) - low).toNat = k by omega]
theorem cnt_fit {m : List Bool} {n : Nat} (h : n = m.length) (hn : n ≤ 1000000) : wrap64 (((m.count false : Nat) : Int) - 1) = ((m.count false : Nat) : Int) - 1 ∧ wrap64 (((m.count false : Nat) : Int) + 1) = ((m.count false + 1 : Nat) : Int) := by
  have := List.count_le_length (a := false) (l := m)
  unfold wrap64; omega
theorem sub_fit {low p : Int} {m : Nat} (hl : low = 0 ∨ low = spl) (h0 : 0 ≤ p) (h1 : p < low + m) (hm : m ≤ 1000000) : wrap64 (p - low) = p - low := by
  unfold wrap64 spl at *; omega
theorem add_fits {n m R : Nat} {o : Obj} {wr : World} (h : n = m) (hn : n ≤ 1000000) (hR : R ≤ wr.heap.size) : m + 1 ≤ maxLen ∧ (m + 1) * 1 ≤ 140737488355328 ∧ R ≤ (wr.alloc o).heap.size := by
  unfold maxLen; simp; omega
theorem HA.more {w w1 : World} {o : Obj} {R hb : Nat} {low : Int} {p : Option Addr} {n c g cap : Nat} {m : List Bool} (h : HA w R hb low p n c m) (hown : w1.ownsRow R 4 1 (.slice (some ⟨g, 0, none⟩) (m.length + 1) cap) (m.length + 1) (m.map Value.bool ++ [.bool false])) (hgrow : (w.alloc o).grownBy w1 (Value.slice p n c).ownBlock) :
    w1.heap[hb]? = some (.cells #[.int .i64 low, .slice p n c, .int .i64 (m.count false : Nat)] 71 (0, 0)) ∧
    (w1.setCell ⟨hb, 1, none⟩ (.slice (some ⟨g, 0, none⟩) (m.length + 1) cap)).heap[hb]? = some (.cells #[.int .i64 low, .slice (some ⟨g, 0, none⟩) (m.length + 1) cap, .int .i64 (m.count false : Nat)] 71 (0, 0)) ∧
    HA ((w1.setCell ⟨hb, 1, none⟩ (.slice (some ⟨g, 0, none⟩) (m.length + 1) cap)).setCell ⟨hb, 2, none⟩ (.int .i64 (m.count false + 1 : Nat))) R hb low (some ⟨g, 0, none⟩) (m.length + 1) cap (m ++ [false]) ∧
    Only (fun k => k = hb ∨ (Value.slice p n c).ownBlock = some k) w ((w1.setCell ⟨hb, 1, none⟩ (.slice (some ⟨g, 0, none⟩) (m.length + 1) cap)).setCell ⟨hb, 2, none⟩ (.int .i64 (m.count false + 1 : Nat))) := by
  have hlt := (Array.getElem?_eq_some_iff.1 h.cell).1
  have hne : some hb ≠ (Value.slice p n c).ownBlock := fun e => by
    rcases h.row.2 with ⟨h1, _⟩ | ⟨g', cap', cur, h1, _, hg, _⟩
    · rw [h1] at e; cases e
    · rw [h1] at e
      obtain rfl : hb = g' := by simpa [Value.ownBlock] using e
      rw [h.cell] at hg
      injection hg with hg
      injection hg with _ hg _
      exact absurd hg (by decide)
  have hgb : g ≠ hb := fun e => by
    subst e
    rcases hown.2 with ⟨h1, _⟩ | ⟨g', cap', cur, h1, _, hg, _⟩
    · cases h1
    · injection h1 with h1 _ _
      injection h1 with h1
      injection h1 with h1 _ _
      subst h1
      rw [hgrow.block g (by simp; omega) hne, heap_alloc_old w o hlt, h.cell] at hg
      injection hg with hg
      injection hg with _ hg _
      exact absurd hg (by decide)
  have h1 : w1.heap[hb]? = some (.cells [.int .i64 low, .slice p n c, .int .i64 (m.count false : Nat)].toArray 71 (0, 0)) := by
    rw [hgrow.block hb (by simp; omega) hne, heap_alloc_old w o hlt]; exact h.cell
  have h2 := cells_set (j := 1) h1 (.slice (some ⟨g, 0, none⟩) (m.length + 1) cap)
  have h3 := cells_set (j := 2) h2 (.int .i64 (m.count false + 1 : Nat))
  refine ⟨h1, h2, ⟨?_, ?_⟩, ((((Only.refl _ w).alloc o).grown hgrow (fun k _ e => .inr e)).setCell (p := ⟨hb, 1, none⟩) (.inl rfl) _).setCell (p := ⟨hb, 2, none⟩) (.inl rfl) _⟩
  · rw [h3, List.count_append]; rfl
  · rw [List.length_append, List.map_append]
    have k1 := hown.kept (gb_set w1 hb 1 (.slice (some ⟨g, 0, none⟩) (m.length + 1) cap)) (.inr (fun e => hgb (by simpa [Value.ownBlock] using e)))
    exact k1.kept (gb_set _ hb 2 _) (.inr (fun e => hgb (by simpa [Value.ownBlock] using e)))
/-- What add leaves. -/
def AddH (w w' : World) (R hb : Nat) (low : Int) (p : Option Addr) (n c : Nat) (m : List Bool) : Prop :=
  ∃ p' n' c', HA w' R hb low p' n' c' m ∧ Only (fun k => k = hb ∨ (Value.slice p n c).ownBlock = some k) w w' ∧ ∀ k, (Value.slice p' n' c').ownBlock = some k → (Value.slice p n c).ownBlock = some k ∨ w.heap.size ≤ k
set_option maxHeartbeats 8000000 in
theorem hadd_to (w : World) (B R hb : Nat) (low : Int) (hlow : low = 0 ∨ low = spl) (p : Option Addr) (n c : Nat) (m : List Bool) (H : HA w R hb low p n c m) (hn : n ≤ 1000000) (hBh : B ≤ hb) (hBR : B ≤ R) (hRw : R ≤ w.heap.size) (v : Value) (ps : List Int) (hs : JS B w v ps) (hps : ps.length ≤ 1000000) (hin : ∀ x ∈ ps, 0 ≤ x ∧ x < low + n) :
    Calls Try.prog 40 #[hp hb, v] w fun e w' => e = .returned (.tuple #[]) ∧ AddH w w' R hb low p n c (hadd low m ps) := by
  obtain ⟨pv, cv, rfl⟩ := hs.form
  obtain ⟨N, hN⟩ : ∃ N, N = ps.length := ⟨_, rfl⟩
  rw [← hN] at hs hps ⊢
  have H0 := Lib.hid H
  have HV := Lib.hid hs
  have HN := Lib.hid hN
  have HPN := Lib.hid hps
  have HIN := Lib.hid hin
  have HLW := Lib.hid hlow
  have HNN := Lib.hid hn
  have HBB := Lib.hid (And.intro hBh (And.intro hBR hRw))
  have HL := Lib.hid H.len
  clear H hs hN hps hin hlow hn hBh hBR hRw
  go_enter Try.func40, Try.ntmps40
  go_wp2_with fail
  go_loopw [9] (fun i wr => ∃ k : Nat, k ≤ N ∧ i = .int .i64 k ∧ Hid (HA wr R hb low p n c (mks low m (ps.take k))) ∧ Hid (Only (fun k => k = hb ∨ (Value.slice p n c).ownBlock = some k) w wr) ∧ Hid (Mi B w wr)) (fun i _ => N - (intOf i).toNat)
  case atStart => exact ⟨0, Nat.zero_le _, rfl, Lib.hid (by rw [List.take_zero]; exact H0.out), Lib.hid (Only.refl _ w), Lib.hid (Mi.refl _ w)⟩
  case round =>
    obtain ⟨k, hk, rfl, HK, O, MI⟩ := hrel
    by_cases hlt : k < N
    · obtain ⟨j1, j2, j3⟩ := next5 hlt HPN.out
      have hkl : k < ps.length := by rw [← HN.out]; exact hlt
      obtain ⟨a, rfl, g1⟩ := (HV.out.mi MI.out).1.at hkl
      have HTK := Lib.hid (mks_take (low := low) (m := m) (List.getElem?_eq_getElem hkl))
      have hx := HIN.out _ (List.getElem_mem hkl)
      generalize ps[k] = x at *
      obtain ⟨mm, hmm⟩ : ∃ mm, mm = mks low m (ps.take k) := ⟨_, rfl⟩
      rw [← hmm] at HK HTK
      have HML : Hid (n = mm.length) := Lib.hid (by rw [hmm, mks_len]; exact HL.out)
      have hsf := sub_fit HLW.out hx.1 hx.2 HNN.out
      have hc0 := cell_ob5 HK.out.cell 0 rfl
      have hc1 := cell_ob5 HK.out.cell 1 rfl
      have hc2 := cell_ob5 HK.out.cell 2 rfl
      have HLT := Lib.hid hlt
      have HX := Lib.hid hx
      clear hmm hkl hk hlt hx
      by_cases c0 : x < low
      · have d0 : decide (x - low ≥ 0) = false := by simp; omega
        have d0' : decide (0 ≤ x - low) = false := by simp; omega
        have d0'' : decide (low ≤ x) = false := by simp; omega
        have HSK := Lib.hid (mk1_skip (m := mm) c0)
        clear c0
        go_wp2_with fail
        refine ⟨⟨k + 1, HLT.out, by rw [j1], Lib.hid (by rw [HTK.out, HSK.out]; exact HK.out), O, MI⟩, ?_⟩
        rw [j1]; exact meas5 HLT.out
      · obtain ⟨kk, hkk⟩ : ∃ kk : Nat, x = low + kk := ⟨(x - low).toNat, by omega⟩
        have hkn : kk < mm.length := by rw [← HML.out]; have := HX.out.2; omega
        have hxl : x - low = (kk : Int) := by omega
        have hkn2 : (kk : Int) < n := by rw [HML.out]; omega
        have hk0 : (0 : Int) ≤ kk := Int.natCast_nonneg _
        have d0 : decide ((kk : Int) ≥ 0) = true := by simp
        obtain ⟨g, rfl, hgb, hgs, hgc, hgf⟩ := HK.out.at hkn
        have hsf2 : wrap64 (x - low) = (kk : Int) := hsf.trans hxl
        clear hsf
        have HAT := Lib.hid (List.getElem?_eq_getElem hkn)
        generalize mm[kk] = q at *
        have HKK := Lib.hid hkk
        have HGB := Lib.hid hgb
        clear hkn hkk hgb hxl c0
        cases q with
        | true =>
          have HSM : Hid (mk1 low mm x = mm) := Lib.hid (by rw [HKK.out]; exact mk1_same HAT.out)
          go_wp2_with fail
          refine ⟨⟨k + 1, HLT.out, by rw [j1], Lib.hid (by rw [HTK.out, HSM.out]; exact HK.out), O, MI⟩, ?_⟩
          rw [j1]; exact meas5 HLT.out
        | false =>
          have HSM : Hid (mk1 low mm x = mm.set kk true) := Lib.hid (by rw [HKK.out]; exact mk1_set)
          have hcf := (cnt_fit HML.out HNN.out).1
          have HM2 := Lib.hid (HK.out.mark HGB.out HAT.out)
          have O2 := Lib.hid ((O.out.setCell (p := ⟨g, kk, none⟩) (.inr rfl) (.bool true)).setCell (p := ⟨hb, 2, none⟩) (.inl rfl) (.int .i64 ((mm.count false : Int) - 1)))
          have M2 := Lib.hid (HK.out.mi HBB.out.1 HBB.out.2.1 ((Only.refl (fun k => k = hb ∨ k = g) wr).setCell (p := ⟨g, kk, none⟩) (.inr rfl) (.bool true) |>.setCell (p := ⟨hb, 2, none⟩) (.inl rfl) (.int .i64 ((mm.count false : Int) - 1))))
          have hz0 := cell_ob5 (HK.out.set1 HGB.out kk).1 0 rfl
          have hz1 := cell_ob5 (HK.out.set1 HGB.out kk).1 1 rfl
          have hz2 := cell_ob5 (HK.out.set1 HGB.out kk).1 2 rfl
          have hz3 := (HK.out.set1 HGB.out kk).2
          go_wp2_with fail
          refine ⟨⟨k + 1, HLT.out, by rw [j1], Lib.hid (by rw [HTK.out, HSM.out]; exact HM2.out), O2, Lib.hid (MI.out.trans M2.out)⟩, ?_⟩
          rw [j1]; exact meas5 HLT.out
    · obtain rfl : k = N := Nat.le_antisymm hk (Nat.le_of_not_lt hlt)
      obtain ⟨i0, hi0, hz0, hz1, hz2⟩ := info_parts binfo
      have hmk : ps.take k = ps := by rw [HN.out, List.take_length]
      rw [hmk] at HK
      obtain ⟨mm, hmm⟩ : ∃ mm, mm = mks low m ps := ⟨_, rfl⟩
      rw [← hmm] at HK
      have HML : Hid (n = mm.length) := Lib.hid (by rw [hmm, mks_len]; exact HL.out)
      have HMM : Hid (hadd low m ps = mm ++ [false]) := Lib.hid (by unfold hadd; rw [hmm])
      have hcf := (cnt_fit HML.out HNN.out).2
      have hc1 := cell_ob5 HK.out.cell 1 rfl
      have hc1' := ((Below.refl _ wr).alloc (Nat.le_refl _) (.cells #[.bool false] 4)).cell (p := ⟨hb, 1, none⟩) (World.block_lt_of_cell? _ _ hc1) |>.trans hc1
      have F : Hid (mm.length + 1 ≤ maxLen ∧ (mm.length + 1) * 1 ≤ 140737488355328 ∧ R ≤ (wr.alloc (.cells #[.bool false] 4)).heap.size) := Lib.hid (add_fits HML.out HNN.out (Nat.le_trans HBB.out.2.2 O.out.size))
      clear hmk hmm hk hlt
      go_wp2_with (at_builtin; refine wpList_append_lies _ (by rfl) (.tmp 49) (.tmp 50) _ (by rfl) R 4 i0 _ 1 1 Try.underlying69 hi0 hz0 hz1 hz2 rfl (by decide) _ mm.length _ (by rfl) (HK.out.row.alloc _) ⟨wr.heap.size, 0, none⟩ 1 1 [Value.bool false] (by rfl) (by rfl) (World.news_of_block (cs := #[_]) (t := 4) (fr := (0, 0)) (heap_alloc_new wr _)) (by simp [Value.oneCell']) (by decide) F.out.1 F.out.2.1 F.out.2.2 _ rfl ?_; intro g1 cap1 w1 own1 grow1 hat1 hlt1; have HMO := Lib.hid (HK.out.more own1 grow1); have hx0 := cell_ob5 HMO.out.1 0 rfl; have hx1 := cell_ob5 HMO.out.1 1 rfl; have hx2 := cell_ob5 HMO.out.1 2 rfl; have hxf := frozen_of_row w1 hb 1 _ _ HMO.out.1; have hy2 := cell_ob5 HMO.out.2.1 2 rfl; have hyf := frozen_of_row _ hb 2 _ _ HMO.out.2.1; have HAT1 := Lib.hid hat1; clear own1 grow1 hat1 hlt1)
      go_end0
      refine ⟨rfl, some ⟨g1, 0, none⟩, mm.length + 1, cap1, ?_, O.out.trans HMO.out.2.2.2 (fun _ h => h) (fun _ _ h => h), fun j hj => ?_⟩
      · rw [HMM.out]; exact HMO.out.2.2.1
      · obtain rfl : g1 = j := by simpa [Value.ownBlock] using hj
        rcases HAT1.out with h | h
        · exact .inl h
        · have := O.out.size
          simp at h
          exact .inr (by omega)
theorem set3T {w : World} {b : Nat} {u v x y : Value} {t : TypeId} (h : w.heap[b]? = some (.cells #[u, v] t (0, 0))) : (w.setCells b 0 [x, y]).heap[b]? = some (.cells #[x, y] t (0, 0)) := by
  have h1 := cells_puts [x, y] 0 [u, v] w (g := b) (t := t) h (by simp)
  exact h1
theorem setCells_only {w : World} {b : Nat} (vs : List Value) : Only (fun k => k = b) w (w.setCells b 0 vs) := Only.setCells (S := fun k => k = b) rfl vs 0 (Only.refl _ w)
end Go.Proofs.Ytadglppplgeldaa
