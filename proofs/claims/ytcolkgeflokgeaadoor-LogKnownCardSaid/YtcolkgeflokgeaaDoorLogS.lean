/- The search for a length among the ends of records; Delete of the last records. Condition: the records lie so. -/
import Derived.Test.YtcolkgeflokgeaaDoorLogA
import Derived.Test.YtcolkgeflokgeaaDoorGenPut
import Derived.Deep.RegionHeld3
import Derived.Deep.QuietTactic
namespace Go.Proofs.YtcolkgeflokgeaaDoor
open Go.RowKit
open Go.Maps

theorem isnan_to (w : World) (a : Int) : Calls Tryd.prog 93 #[.int .i64 a] w fun e w' => e = .returned (.bool false) ∧ w = w' := by
  go_enter Tryd.func93, Tryd.ntmps93
  go_wp2
  go_ret
  exact ⟨by simp, rfl⟩
def cmpI (a b : Int) : Int := if a < b then -1 else if b < a then 1 else 0
theorem cmpi_to (w : World) (a b : Int) : Calls Tryd.prog 86 #[.int .i64 a, .int .i64 b] w fun e w' => e = .returned (.int .i64 (cmpI a b)) ∧ w = w' := by
  have h1 := fun a => isnan_to w a
  unfold cmpI
  rcases Int.lt_trichotomy a b with h | h | h
  · rw [if_pos h]
    go_enter Tryd.func86, Tryd.ntmps86
    go_wp2_with (refine (h1 _).mono ?_; rintro e w' ⟨rfl, rfl⟩)
    go_ret
    exact ⟨rfl, rfl⟩
  · subst h
    rw [if_neg (by omega), if_neg (by omega)]
    go_enter Tryd.func86, Tryd.ntmps86
    go_wp2_with (refine (h1 _).mono ?_; rintro e w' ⟨rfl, rfl⟩)
    go_ret
    exact ⟨rfl, rfl⟩
  · have h' : ¬ a < b := by omega
    rw [if_neg h', if_pos h]
    go_enter Tryd.func86, Tryd.ntmps86
    go_wp2_with (refine (h1 _).mono ?_; rintro e w' ⟨rfl, rfl⟩)
    go_ret
    exact ⟨rfl, rfl⟩
theorem wclos_to (w : World) (k f L : Int) (p : Option Addr) (n c : Nat) : Calls Tryd.prog 85 #[.agg #[.int .i64 k, .slice p n c, .int .i64 f], .int .i64 L] w fun e w' => e = .returned (.int .i64 (cmpI f L)) ∧ Below w.heap.size w w' := by
  have hb : Below w.heap.size w (w.alloc (.cells #[.int .i64 k, .slice p n c, .int .i64 f] 135)) := (Below.refl _ w).alloc (Nat.le_refl _) _
  have HB := Lib.hid hb
  clear hb
  go_enter Tryd.func85, Tryd.ntmps85
  go_wp2_with fail
  refine (cmpi_to _ f L).mono ?_
  rintro e w' ⟨rfl, rfl⟩
  go_wp2_with fail
  go_ret
  exact ⟨rfl, HB.out⟩
/-- Where record t ends. -/
def fins (E : List Re) (t : Nat) : Nat := ends (rcs (E.take (t + 1)))
theorem rrow_fin (E : List Re) {t : Nat} (h : t < E.length) : (rrow (ends (rcs (E.take t))) E[t])[2]? = some (.int .i64 (fins E t : Nat)) := by
  unfold fins
  rw [List.take_add_one, List.getElem?_eq_getElem h, Option.toList_some, rcs_app, show rcs [E[t]] = [E[t].2] from rfl, ends_snoc]
  rfl
theorem fins_lt (E : List Re) {t u : Nat} (h : t < u) (hu : u < E.length) : fins E t < fins E u := by
  unfold fins
  have e : E.take (u + 1) = E.take (t + 1) ++ (E.take (u + 1)).drop (t + 1) := by
    have := List.take_append_drop (t + 1) (E.take (u + 1))
    rw [List.take_take, Nat.min_eq_left (by omega)] at this
    exact this.symm
  rw [e, rcs_app, ends_app]
  have h1 := ends_many (rcs ((E.take (u + 1)).drop (t + 1)))
  rw [rcs_len, List.length_drop, List.length_take, Nat.min_eq_left (by omega)] at h1
  omega
/-- What the search finds. -/
structure Found (E : List Re) (L : Int) (i : Nat) : Prop where
  le : i ≤ E.length
  ahead : ∀ t, t < i → (fins E t : Int) < L
  behind : ∀ t, i ≤ t → t < E.length → L ≤ (fins E t : Int)
def BsPost (w : World) (E : List Re) (L : Int) (e : Ending) (w' : World) : Prop := ∃ (i : Nat) (b : Bool), e = .returned (.tuple #[.int .i64 i, .bool b]) ∧ (b = true ↔ i < E.length ∧ (fins E i : Int) = L) ∧ Found E L i ∧ Below w.heap.size w w'
theorem fins_small {w : World} {B : Nat} {rv : Value} {E : List Re} (h : RAt w B rv E) (t : Nat) : fins E t ≤ 1000000000 := by
  have h1 := h.small
  have e := List.take_append_drop (t + 1) E
  rw [← e, rcs_app, ends_app] at h1
  unfold fins
  omega
set_option maxRecDepth 20000 in
set_option maxHeartbeats 4000000 in
theorem bsearch_to (w : World) (B : Nat) (rv : Value) (E : List Re) (L : Int) (h : RAt w B rv E) : Calls Tryd.prog 84 #[rv, .int .i64 L, .func (.func 85) #[] #[]] w (BsPost w E L) := by
  obtain ⟨p, cap, rfl⟩ := h.slice
  have H := Lib.hid h
  have hmm := h.many
  obtain ⟨n, hn⟩ : ∃ n, n = E.length := ⟨_, rfl⟩
  have HN := Lib.hid hn
  rw [← hn] at hmm ⊢
  have HP : Hid (0 < n → ∃ g, p = some ⟨g, 0, none⟩) := Lib.hid (fun h0 => by
    rcases h.row.2 with ⟨_, h1⟩ | ⟨g, cap', cur, he, _⟩
    · omega
    · cases he; exact ⟨g, rfl⟩)
  clear hn h
  go_enter Tryd.func84, Tryd.ntmps84
  go_wp2_with fail
  go_loopw [9, 10] (fun a b wr => ∃ lo hi : Nat, a = .int .i64 lo ∧ b = .int .i64 hi ∧ lo ≤ hi ∧ hi ≤ n ∧ Hid ((∀ t, t < lo → (fins E t : Int) < L) ∧ (∀ t, hi ≤ t → t < n → L ≤ (fins E t : Int)) ∧ Below w.heap.size w wr)) (fun a b _ => (intOf b - intOf a).toNat)
  case atStart => exact ⟨0, n, rfl, rfl, Nat.zero_le _, Nat.le_refl _, Lib.hid ⟨fun t ht => absurd ht (Nat.not_lt_zero _), fun t h1 h2 => by omega, Below.refl _ _⟩⟩
  case round =>
    obtain ⟨lo, hi, rfl, rfl, hlh, hhn, HI⟩ := hrel
    by_cases hlt : lo < hi
    · obtain ⟨g, rfl⟩ := HP.out (by omega)
      have hm : (lo + hi) / 2 < E.length := by rw [← HN.out]; omega
      have hra := H.out.kb HI.out.2.2
      have e0 := hra.at hm (c := 0) rfl (by omega)
      have e1 := hra.at hm (c := 1) rfl (by omega)
      have e2 := hra.at hm (c := 2) (rrow_fin E hm) (by omega)
      obtain ⟨pb, cb, hb⟩ := own_slice (H.out.bod E[(lo + hi) / 2] (List.getElem_mem hm))
      rw [hb] at e1
      rw [Nat.add_zero] at e0
      obtain ⟨f, hf⟩ : ∃ f, f = fins E ((lo + hi) / 2) := ⟨_, rfl⟩
      have HF := Lib.hid hf
      rw [← hf] at e2
      generalize E[(lo + hi) / 2] = em at *
      have HC := Lib.hid (wclos_to wr em.2.1 f L pb em.2.2.length cb)
      unfold cmpI at HC
      clear hb hf hra
      by_cases hc : (f : Int) < L
      · rw [if_pos hc] at HC
        go_wp2_with (refine HC.out.mono ?_; rintro e w2 ⟨rfl, b2⟩; have B2 := Lib.hid b2; clear b2)
        refine ⟨⟨(lo + hi) / 2 + 1, hi, by rw [show ((lo : Int) + (hi : Int)) / 2 + 1 = (((lo + hi) / 2 + 1 : Nat) : Int) by omega], rfl, by omega, hhn, Lib.hid ⟨fun t ht => ?_, HI.out.2.1, HI.out.2.2.trans (B2.out.mono HI.out.2.2.size)⟩⟩, by simp [intOf]; omega⟩
        rcases Nat.lt_or_ge t ((lo + hi) / 2) with h1 | h1
        · have := fins_lt E h1 hm
          rw [← HF.out] at this
          omega
        · obtain rfl : t = (lo + hi) / 2 := by omega
          rw [← HF.out]; exact hc
      · have hge : ∃ c : Int, cmpI f L = c ∧ ¬ c < 0 := by
          unfold cmpI
          rw [if_neg hc]
          split
          · exact ⟨1, rfl, by decide⟩
          · exact ⟨0, rfl, by decide⟩
        obtain ⟨c, hc1, hc2⟩ := hge
        unfold cmpI at hc1
        rw [hc1] at HC
        clear hc1
        go_wp2_with (refine HC.out.mono ?_; rintro e w2 ⟨rfl, b2⟩; have B2 := Lib.hid b2; clear b2)
        refine ⟨⟨lo, (lo + hi) / 2, rfl, by rw [show ((lo : Int) + (hi : Int)) / 2 = (((lo + hi) / 2 : Nat) : Int) by omega], by omega, by omega, Lib.hid ⟨HI.out.1, fun t h1 h2 => ?_, HI.out.2.2.trans (B2.out.mono HI.out.2.2.size)⟩⟩, by simp [intOf]; omega⟩
        rcases Nat.lt_or_ge ((lo + hi) / 2) t with h3 | h3
        · have := fins_lt E h3 (by rw [← HN.out]; exact h2)
          rw [← HF.out] at this
          omega
        · obtain rfl : t = (lo + hi) / 2 := by omega
          rw [← HF.out]; omega
    · obtain rfl : lo = hi := by omega
      have HFD : Hid (Found E L lo) := Lib.hid ⟨by rw [← HN.out]; exact hhn, HI.out.1, fun t h1 h2 => HI.out.2.1 t h1 (by rw [HN.out]; exact h2)⟩
      by_cases hn : lo < n
      · obtain ⟨g, rfl⟩ := HP.out (by omega)
        have hm : lo < E.length := by rw [← HN.out]; exact hn
        have hn' : (lo : Int) < n := by omega
        have hl0 : 0 ≤ (lo : Int) := by omega
        have hlw : IntKind.i64.wrap (lo : Int) = (lo : Int) := IntWalk.i64_in _ (by omega)
        have hra := H.out.kb HI.out.2.2
        have e0 := hra.at hm (c := 0) rfl (by omega)
        have e1 := hra.at hm (c := 1) rfl (by omega)
        have e2 := hra.at hm (c := 2) (rrow_fin E hm) (by omega)
        obtain ⟨pb, cb, hb⟩ := own_slice (H.out.bod E[lo] (List.getElem_mem hm))
        rw [hb] at e1
        rw [Nat.add_zero] at e0
        obtain ⟨f, hf⟩ : ∃ f, f = fins E lo := ⟨_, rfl⟩
        have HF := Lib.hid hf
        rw [← hf] at e2
        have hfl : L ≤ (f : Int) := by rw [hf]; exact HFD.out.behind lo (Nat.le_refl _) hm
        have HM := Lib.hid hm
        generalize E[lo] = em at *
        have HC := Lib.hid (wclos_to wr em.2.1 f L pb em.2.2.length cb)
        unfold cmpI at HC
        rw [if_neg (by omega)] at HC
        clear hb hf hra hm
        by_cases hc : L < (f : Int)
        · rw [if_pos hc] at HC
          go_wp2_with (refine HC.out.mono ?_; rintro e w2 ⟨rfl, b2⟩; have B2 := Lib.hid b2; clear b2)
          go_ret2
          exact ⟨lo, false, rfl, ⟨fun h => absurd h (by decide), fun h => by have := h.2; rw [← HF.out] at this; omega⟩, HFD.out, HI.out.2.2.trans (B2.out.mono HI.out.2.2.size)⟩
        · rw [if_neg hc] at HC
          go_wp2_with (refine HC.out.mono ?_; rintro e w2 ⟨rfl, b2⟩; have B2 := Lib.hid b2; clear b2)
          go_ret2
          exact ⟨lo, true, rfl, ⟨fun _ => ⟨HM.out, by rw [← HF.out]; omega⟩, fun _ => rfl⟩, HFD.out, HI.out.2.2.trans (B2.out.mono HI.out.2.2.size)⟩
      · have hn' : ¬ (lo : Int) < n := by omega
        go_wp2_with fail
        go_ret2
        exact ⟨lo, false, rfl, ⟨fun h => absurd h (by decide), fun h => by have := h.1; rw [← HN.out] at this; omega⟩, HFD.out, HI.out.2.2⟩
/-- How many records end at L, if one ends there. -/
def cutAt (R : List Rc) (L : Int) : Option Nat := (List.range (R.length + 1)).find? fun k => decide ((ends (R.take k) : Int) = L)
theorem ends_take_lt {R : List Rc} {a b : Nat} (h : a < b) (hb : b ≤ R.length) : ends (R.take a) < ends (R.take b) := by
  have e : R.take b = R.take a ++ (R.take b).drop a := by
    have := List.take_append_drop a (R.take b)
    rw [List.take_take, Nat.min_eq_left (by omega)] at this
    exact this.symm
  rw [e, ends_app]
  have h1 := ends_many ((R.take b).drop a)
  rw [List.length_drop, List.length_take, Nat.min_eq_left hb] at h1
  omega
theorem cutAt_some {R : List Rc} {L : Int} {k : Nat} (hk : k ≤ R.length) (h : (ends (R.take k) : Int) = L) : cutAt R L = some k := by
  unfold cutAt
  rw [List.find?_range_eq_some]
  refine ⟨by simpa using h, List.mem_range.2 (by omega), fun j hj => ?_⟩
  have := ends_take_lt hj hk
  simp
  omega
theorem cutAt_none {R : List Rc} {L : Int} (h : ∀ k, k ≤ R.length → (ends (R.take k) : Int) ≠ L) : cutAt R L = none := by
  unfold cutAt
  rw [List.find?_eq_none]
  intro k hk
  have := h k (by have := List.mem_range.1 hk; omega)
  simpa using this
set_option maxRecDepth 20000 in
set_option maxHeartbeats 1000000 in
theorem within_to (w : World) (B l d : Nat) (nm : Key) (rv : Value) (E : List Re) (L : Int) (h : LAt w B l d nm rv E) : Calls Tryd.prog 58 #[.pointer (some ⟨l, 0, none⟩), .int .i64 L] w fun e w' =>
    ∃ (k : Nat) (b : Bool), e = .returned (.tuple #[.int .i64 k, .bool b]) ∧ (if b = true then cutAt (rcs E) L = some k else cutAt (rcs E) L = none) ∧ Below w.heap.size w w' := by
  by_cases h0 : L = 0
  · subst h0
    have HC : Hid (cutAt (rcs E) 0 = some 0) := Lib.hid (cutAt_some (Nat.zero_le _) rfl)
    clear h
    go_enter Tryd.func58, Tryd.ntmps58
    go_wp2
    go_ret2
    exact ⟨0, true, rfl, by rw [if_pos rfl]; exact HC.out, Below.refl _ _⟩
  · have hb := (bsearch_to w B rv E L h.ra)
    have c2 := h.c2
    have hmm := h.ra.many
    obtain ⟨p, cap, rfl⟩ := h.ra.slice
    have HB := Lib.hid hb
    have h0' : (L == 0) = false := by simpa using h0
    clear h hb
    go_enter Tryd.func58, Tryd.ntmps58
    go_wp2_with fail
    refine HB.out.mono ?_
    rintro e w' ⟨i, b, rfl, hbi, hf, b2⟩
    have B2 := Lib.hid b2
    have HBI := Lib.hid hbi
    have HF := Lib.hid hf
    have hi : i ≤ 111111111 := Nat.le_trans hf.le hmm
    clear hbi hf b2 HB
    go_wp2_with fail
    go_ret2
    refine ⟨i + 1, b, rfl, ?_, B2.out⟩
    cases b with
    | true =>
      rw [if_pos rfl]
      obtain ⟨h1, h2⟩ := HBI.out.1 rfl
      exact cutAt_some (by rw [rcs_len]; omega) (by rw [← rcs_take]; exact h2)
    | false =>
      rw [if_neg (by decide)]
      refine cutAt_none fun k hk => ?_
      rw [rcs_len] at hk
      cases k with
      | zero => intro e; exact h0 e.symm
      | succ t =>
        intro e
        have e' : (fins E t : Int) = L := by rw [← rcs_take] at e; exact e
        rcases Nat.lt_trichotomy t i with h3 | h3 | h3
        · have := HF.out.ahead t h3; omega
        · subst h3
          have := HBI.out.2 ⟨by omega, e'⟩
          cases this
        · have h4 := fins_lt E h3 (by omega)
          have h5 := HF.out.behind i (Nat.le_refl _) (by omega)
          omega
end Go.Proofs.YtcolkgeflokgeaaDoor
