/- The search for a length among the ends of records; Delete of the last records. Condition: the records lie so. · Delete of the last records; keep. Condition: the log lies so. -/
import Derived.Test.YtageblggakfbdaaGreatDoorLogB
import Derived.Test.YtageblggakfbdaaGreatDoorGenApp
import Derived.Deep.RegionHeld3
import Derived.Deep.QuietTactic
namespace Go.Proofs.YtageblggakfbdaaGreatDoor
open Go.RowKit
open Go.Maps

theorem isnan_to (w : World) (a : Int) : Calls Tryz.prog 114 #[.int .i64 a] w fun e w' => e = .returned (.bool false) ∧ w = w' := by
  go_enter Tryz.func114, Tryz.ntmps114
  go_wp2
  go_ret
  exact ⟨by simp, rfl⟩
def cmpI (a b : Int) : Int := if a < b then -1 else if b < a then 1 else 0
theorem cmpi_to (w : World) (a b : Int) : Calls Tryz.prog 93 #[.int .i64 a, .int .i64 b] w fun e w' => e = .returned (.int .i64 (cmpI a b)) ∧ w = w' := by
  have h1 := fun a => isnan_to w a
  unfold cmpI
  rcases Int.lt_trichotomy a b with h | h | h
  · rw [if_pos h]
    go_enter Tryz.func93, Tryz.ntmps93
    go_wp2_with (refine (h1 _).mono ?_; rintro e w' ⟨rfl, rfl⟩)
    go_ret
    exact ⟨rfl, rfl⟩
  · subst h
    rw [if_neg (by omega), if_neg (by omega)]
    go_enter Tryz.func93, Tryz.ntmps93
    go_wp2_with (refine (h1 _).mono ?_; rintro e w' ⟨rfl, rfl⟩)
    go_ret
    exact ⟨rfl, rfl⟩
  · have h' : ¬ a < b := by omega
    rw [if_neg h', if_pos h]
    go_enter Tryz.func93, Tryz.ntmps93
    go_wp2_with (refine (h1 _).mono ?_; rintro e w' ⟨rfl, rfl⟩)
    go_ret
    exact ⟨rfl, rfl⟩
theorem wclos_to (w : World) (k f L : Int) (p : Option Addr) (n c : Nat) : Calls Tryz.prog 92 #[.agg #[.int .i64 k, .slice p n c, .int .i64 f], .int .i64 L] w fun e w' => e = .returned (.int .i64 (cmpI f L)) ∧ Below w.heap.size w w' := by
  have hb : Below w.heap.size w (w.alloc (.cells #[.int .i64 k, .slice p n c, .int .i64 f] 119)) := (Below.refl _ w).alloc (Nat.le_refl _) _
  have HB := Lib.hid hb
  clear hb
  go_enter Tryz.func92, Tryz.ntmps92
  go_wp2_with fail
  refine (cmpi_to _ f L).mono ?_
  rintro e w' ⟨rfl, rfl⟩
  go_wp2_with fail
  go_ret
  exact ⟨rfl, HB.out⟩
/-- Where record t ends. -/
def fins (E : List Re) (t : Nat) : Nat := ends (rcs (E.take (t + 1)))
theorem rrow_fin (E : List Re) {t : Nat} (h : t < E.length) : (rrow (ends (rcs (E.take t))) E[t])[2]? = some (.int .i64 (fins E t : Nat)) := by
  unfold fins
  rw [List.take_add_one, List.getElem?_eq_getElem h, Option.toList_some, rcs_app, show rcs [E[t]] = [E[t].2] from rfl, ends_snoc]
  rfl
theorem fins_lt (E : List Re) {t u : Nat} (h : t < u) (hu : u < E.length) : fins E t < fins E u := by
  unfold fins
  have e : E.take (u + 1) = E.take (t + 1) ++ (E.take (u + 1)).drop (t + 1) := by
    have := List.take_append_drop (t + 1) (E.take (u + 1))
    rw [List.take_take, Nat.min_eq_left (by omega)] at this
    exact this.symm
  rw [e, rcs_app, ends_app]
  have h1 := ends_many (rcs ((E.take (u + 1)).drop (t + 1)))
  rw [rcs_len, List.length_drop, List.length_take, Nat.min_eq_left (by omega)] at h1
  omega
/-- What the search finds. -/
structure Found (E : List Re) (L : Int) (i : Nat) : Prop where
  le : i ≤ E.length
  ahead : ∀ t, t < i → (fins E t : Int) < L
  behind : ∀ t, i ≤ t → t < E.length → L ≤ (fins E t : Int)
def BsPost (w : World) (E : List Re) (L : Int) (e : Ending) (w' : World) : Prop := ∃ (i : Nat) (b : Bool), e = .returned (.tuple #[.int .i64 i, .bool b]) ∧ (b = true ↔ i < E.length ∧ (fins E i : Int) = L) ∧ Found E L i ∧ Below w.heap.size w w'
theorem fins_small {w : World} {B : Nat} {rv : Value} {E : List Re} (h : RAt w B rv E) (t : Nat) : fins E t ≤ 1000000000 := by
  have h1 := h.small
  have e := List.take_append_drop (t + 1) E
  rw [← e, rcs_app, ends_app] at h1
  unfold fins
  omega
set_option maxRecDepth 20000 in
set_option maxHeartbeats 4000000 in
theorem bsearch_to (w : World) (B : Nat) (rv : Value) (E : List Re) (L : Int) (h : RAt w B rv E) : Calls Tryz.prog 91 #[rv, .int .i64 L, .func (.func 92) #[] #[]] w (BsPost w E L) := by
  obtain ⟨p, cap, rfl⟩ := h.slice
  have H := Lib.hid h
  have hmm := h.many
  obtain ⟨n, hn⟩ : ∃ n, n = E.length := ⟨_, rfl⟩
  have HN := Lib.hid hn
  rw [← hn] at hmm ⊢
  have HP : Hid (0 < n → ∃ g, p = some ⟨g, 0, none⟩) := Lib.hid (fun h0 => by
    rcases h.row.2 with ⟨_, h1⟩ | ⟨g, cap', cur, he, _⟩
    · omega
    · cases he; exact ⟨g, rfl⟩)
  clear hn h
  go_enter Tryz.func91, Tryz.ntmps91
  go_wp2_with fail
  go_loopw [9, 10] (fun a b wr => ∃ lo hi : Nat, a = .int .i64 lo ∧ b = .int .i64 hi ∧ lo ≤ hi ∧ hi ≤ n ∧ Hid ((∀ t, t < lo → (fins E t : Int) < L) ∧ (∀ t, hi ≤ t → t < n → L ≤ (fins E t : Int)) ∧ Below w.heap.size w wr)) (fun a b _ => (intOf b - intOf a).toNat)
  case atStart => exact ⟨0, n, rfl, rfl, Nat.zero_le _, Nat.le_refl _, Lib.hid ⟨fun t ht => absurd ht (Nat.not_lt_zero _), fun t h1 h2 => by omega, Below.refl _ _⟩⟩
  case round =>
    obtain ⟨lo, hi, rfl, rfl, hlh, hhn, HI⟩ := hrel
    by_cases hlt : lo < hi
    · obtain ⟨g, rfl⟩ := HP.out (by omega)
      have hm : (lo + hi) / 2 < E.length := by rw [← HN.out]; omega
      have hra := H.out.kb HI.out.2.2
      have e0 := hra.at hm (c := 0) rfl (by omega)
      have e1 := hra.at hm (c := 1) rfl (by omega)
      have e2 := hra.at hm (c := 2) (rrow_fin E hm) (by omega)
      obtain ⟨pb, cb, hb⟩ := own_slice (H.out.bod E[(lo + hi) / 2] (List.getElem_mem hm))
      rw [hb] at e1
      rw [Nat.add_zero] at e0
      obtain ⟨f, hf⟩ : ∃ f, f = fins E ((lo + hi) / 2) := ⟨_, rfl⟩
      have HF := Lib.hid hf
      rw [← hf] at e2
      generalize E[(lo + hi) / 2] = em at *
      have HC := Lib.hid (wclos_to wr em.2.1 f L pb em.2.2.length cb)
      unfold cmpI at HC
      clear hb hf hra
      by_cases hc : (f : Int) < L
      · rw [if_pos hc] at HC
        go_wp2_with (refine HC.out.mono ?_; rintro e w2 ⟨rfl, b2⟩; have B2 := Lib.hid b2; clear b2)
        refine ⟨⟨(lo + hi) / 2 + 1, hi, by rw [show ((lo : Int) + (hi : Int)) / 2 + 1 = (((lo + hi) / 2 + 1 : Nat) : Int) by omega], rfl, by omega, hhn, Lib.hid ⟨fun t ht => ?_, HI.out.2.1, HI.out.2.2.trans (B2.out.mono HI.out.2.2.size)⟩⟩, by simp [intOf]; omega⟩
        rcases Nat.lt_or_ge t ((lo + hi) / 2) with h1 | h1
        · have := fins_lt E h1 hm
          rw [← HF.out] at this
          omega
        · obtain rfl : t = (lo + hi) / 2 := by omega
          rw [← HF.out]; exact hc
      · have hge : ∃ c : Int, cmpI f L = c ∧ ¬ c < 0 := by
          unfold cmpI
          rw [if_neg hc]
          split
          · exact ⟨1, rfl, by decide⟩
          · exact ⟨0, rfl, by decide⟩
        obtain ⟨c, hc1, hc2⟩ := hge
        unfold cmpI at hc1
        rw [hc1] at HC
        clear hc1
        go_wp2_with (refine HC.out.mono ?_; rintro e w2 ⟨rfl, b2⟩; have B2 := Lib.hid b2; clear b2)
        refine ⟨⟨lo, (lo + hi) / 2, rfl, by rw [show ((lo : Int) + (hi : Int)) / 2 = (((lo + hi) / 2 : Nat) : Int) by omega], by omega, by omega, Lib.hid ⟨HI.out.1, fun t h1 h2 => ?_, HI.out.2.2.trans (B2.out.mono HI.out.2.2.size)⟩⟩, by simp [intOf]; omega⟩
        rcases Nat.lt_or_ge ((lo + hi) / 2) t with h3 | h3
        · have := fins_lt E h3 (by rw [← HN.out]; exact h2)
          rw [← HF.out] at this
          omega
        · obtain rfl : t = (lo + hi) / 2 := by omega
          rw [← HF.out]; omega
    · obtain rfl : lo = hi := by omega
      have HFD : Hid (Found E L lo) := Lib.hid ⟨by rw [← HN.out]; exact hhn, HI.out.1, fun t h1 h2 => HI.out.2.1 t h1 (by rw [HN.out]; exact h2)⟩
      by_cases hn : lo < n
      · obtain ⟨g, rfl⟩ := HP.out (by omega)
        have hm : lo < E.length := by rw [← HN.out]; exact hn
        have hn' : (lo : Int) < n := by omega
        have hl0 : 0 ≤ (lo : Int) := by omega
        have hlw : IntKind.i64.wrap (lo : Int) = (lo : Int) := IntWalk.i64_in _ (by omega)
        have hra := H.out.kb HI.out.2.2
        have e0 := hra.at hm (c := 0) rfl (by omega)
        have e1 := hra.at hm (c := 1) rfl (by omega)
        have e2 := hra.at hm (c := 2) (rrow_fin E hm) (by omega)
        obtain ⟨pb, cb, hb⟩ := own_slice (H.out.bod E[lo] (List.getElem_mem hm))
        rw [hb] at e1
        rw [Nat.add_zero] at e0
        obtain ⟨f, hf⟩ : ∃ f, f = fins E lo := ⟨_, rfl⟩
        have HF := Lib.hid hf
        rw [← hf] at e2
        have hfl : L ≤ (f : Int) := by rw [hf]; exact HFD.out.behind lo (Nat.le_refl _) hm
        have HM := Lib.hid hm
        generalize E[lo] = em at *
        have HC := Lib.hid (wclos_to wr em.2.1 f L pb em.2.2.length cb)
        unfold cmpI at HC
        rw [if_neg (by omega)] at HC
        clear hb hf hra hm
        by_cases hc : L < (f : Int)
        · rw [if_pos hc] at HC
          go_wp2_with (refine HC.out.mono ?_; rintro e w2 ⟨rfl, b2⟩; have B2 := Lib.hid b2; clear b2)
          go_ret2
          exact ⟨lo, false, rfl, ⟨fun h => absurd h (by decide), fun h => by have := h.2; rw [← HF.out] at this; omega⟩, HFD.out, HI.out.2.2.trans (B2.out.mono HI.out.2.2.size)⟩
        · rw [if_neg hc] at HC
          go_wp2_with (refine HC.out.mono ?_; rintro e w2 ⟨rfl, b2⟩; have B2 := Lib.hid b2; clear b2)
          go_ret2
          exact ⟨lo, true, rfl, ⟨fun _ => ⟨HM.out, by rw [← HF.out]; omega⟩, fun _ => rfl⟩, HFD.out, HI.out.2.2.trans (B2.out.mono HI.out.2.2.size)⟩
      · have hn' : ¬ (lo : Int) < n := by omega
        go_wp2_with fail
        go_ret2
        exact ⟨lo, false, rfl, ⟨fun h => absurd h (by decide), fun h => by have := h.1; rw [← HN.out] at this; omega⟩, HFD.out, HI.out.2.2⟩
/-- How many records end at L, if one ends there. -/
def cutAt (R : List Rc) (L : Int) : Option Nat := (List.range (R.length + 1)).find? fun k => decide ((ends (R.take k) : Int) = L)
theorem ends_take_lt {R : List Rc} {a b : Nat} (h : a < b) (hb : b ≤ R.length) : ends (R.take a) < ends (R.take b) := by
  have e : R.take b = R.take a ++ (R.take b).drop a := by
    have := List.take_append_drop a (R.take b)
    rw [List.take_take, Nat.min_eq_left (by omega)] at this
    exact this.symm
  rw [e, ends_app]
  have h1 := ends_many ((R.take b).drop a)
  rw [List.length_drop, List.length_take, Nat.min_eq_left hb] at h1
  omega
theorem cutAt_some {R : List Rc} {L : Int} {k : Nat} (hk : k ≤ R.length) (h : (ends (R.take k) : Int) = L) : cutAt R L = some k := by
  unfold cutAt
  rw [List.find?_range_eq_some]
  refine ⟨by simpa using h, List.mem_range.2 (by omega), fun j hj => ?_⟩
  have := ends_take_lt hj hk
  simp
  omega
theorem cutAt_none {R : List Rc} {L : Int} (h : ∀ k, k ≤ R.length → (ends (R.take k) : Int) ≠ L) : cutAt R L = none := by
  unfold cutAt
  rw [List.find?_eq_none]
  intro k hk
  have := h k (by have := List.mem_range.1 hk; omega)
  simpa using this
set_option maxRecDepth 20000 in
set_option maxHeartbeats 1000000 in
theorem within_to (w : World) (B l d : Nat) (nm : Key) (rv : Value) (E : List Re) (L : Int) (h : LAt w B l d nm rv E) : Calls Tryz.prog 71 #[.pointer (some ⟨l, 0, none⟩), .int .i64 L] w fun e w' =>
    ∃ (k : Nat) (b : Bool), e = .returned (.tuple #[.int .i64 k, .bool b]) ∧ (if b = true then cutAt (rcs E) L = some k else cutAt (rcs E) L = none) ∧ Below w.heap.size w w' := by
  by_cases h0 : L = 0
  · subst h0
    have HC : Hid (cutAt (rcs E) 0 = some 0) := Lib.hid (cutAt_some (Nat.zero_le _) rfl)
    clear h
    go_enter Tryz.func71, Tryz.ntmps71
    go_wp2
    go_ret2
    exact ⟨0, true, rfl, by rw [if_pos rfl]; exact HC.out, Below.refl _ _⟩
  · have hb := (bsearch_to w B rv E L h.ra)
    have c2 := h.c2
    have hmm := h.ra.many
    obtain ⟨p, cap, rfl⟩ := h.ra.slice
    have HB := Lib.hid hb
    have h0' : (L == 0) = false := by simpa using h0
    clear h hb
    go_enter Tryz.func71, Tryz.ntmps71
    go_wp2_with fail
    refine HB.out.mono ?_
    rintro e w' ⟨i, b, rfl, hbi, hf, b2⟩
    have B2 := Lib.hid b2
    have HBI := Lib.hid hbi
    have HF := Lib.hid hf
    have hi : i ≤ 111111111 := Nat.le_trans hf.le hmm
    clear hbi hf b2 HB
    go_wp2_with fail
    go_ret2
    refine ⟨i + 1, b, rfl, ?_, B2.out⟩
    cases b with
    | true =>
      rw [if_pos rfl]
      obtain ⟨h1, h2⟩ := HBI.out.1 rfl
      exact cutAt_some (by rw [rcs_len]; omega) (by rw [← rcs_take]; exact h2)
    | false =>
      rw [if_neg (by decide)]
      refine cutAt_none fun k hk => ?_
      rw [rcs_len] at hk
      cases k with
      | zero => intro e; exact h0 e.symm
      | succ t =>
        intro e
        have e' : (fins E t : Int) = L := by rw [← rcs_take] at e; exact e
        rcases Nat.lt_trichotomy t i with h3 | h3 | h3
        · have := HF.out.ahead t h3; omega
        · subst h3
          have := HBI.out.2 ⟨by omega, e'⟩
          cases this
        · have h4 := fins_lt E h3 (by omega)
          have h5 := HF.out.behind i (Nat.le_refl _) (by omega)
          omega
end Go.Proofs.YtageblggakfbdaaGreatDoor
namespace Go.Proofs.YtageblggakfbdaaGreatDoor
open Go.RowKit
open Go.Maps

def rzer : Array Value := #[.int .i64 0, .slice none 0 0, .int .i64 0]
theorem rzero (w : World) : (zeroValue 119).run Tryz.prog w = .ok (.agg rzer) w := by kernel_rfl
theorem rz_one (m : Nat) : ∀ u ∈ (Builtin.zeroCells rzer m).toList, u.oneCell' = true := by
  intro u hu
  unfold Builtin.zeroCells at hu
  simp only [Array.toList_map, List.mem_map] at hu
  obtain ⟨i, _, rfl⟩ := hu
  have h : i % 3 = 0 ∨ i % 3 = 1 ∨ i % 3 = 2 := by omega
  rcases h with h | h | h <;> (show (rzer[i % 3]!).oneCell' = true; rw [h]; rfl)
theorem rz_len (m : Nat) : (Builtin.zeroCells rzer m).toList.length = m * 3 := by
  unfold Builtin.zeroCells
  simp [rzer]
theorem clear_rec (w : World) (ty : TypeId) (g o n c : Nat) (hn : 0 < n) (ht : w.there g o (n * 3)) :
    (Builtin.clear_ #[104] ty #[.slice (some ⟨g, o, none⟩) n c]).run Tryz.prog w = .ok (.tuple #[]) (w.setCells g o (Builtin.zeroCells rzer n).toList) := by
  have hst := run_storeCells_cells (P := Tryz.prog) g o (Builtin.zeroCells rzer n).toList 0 w (fun j hj => by
      rw [rz_len] at hj
      have := (ht j hj).1
      rwa [Nat.add_zero]) (fun j hj => by
      rw [rz_len] at hj
      have := (ht j hj).2
      rwa [Nat.add_zero]) (rz_one n)
  simp only [Nat.add_zero] at hst
  obtain ⟨m, rfl⟩ : ∃ m, n = m + 1 := ⟨n - 1, by omega⟩
  have hv := rzero w
  have hzc : (Value.agg rzer).cells = rzer := rfl
  simp [Builtin.clear_, run_underlying Tryz.underlying104, hv, hzc, hst]
theorem append_zero {w : World} {p q : Option Addr} {n cap c : Nat} (hn : n ≤ cap) (ty : TypeId) : (Builtin.append_ #[104, 104] ty #[.slice p n cap, .slice q 0 c]).run Tryz.prog w = .ok (.slice p n cap) w := by
  obtain ⟨i0, hi0, hz0, hz1, hz2⟩ := info_parts rinfo
  cases p <;> cases q <;> simp [Builtin.append_, run_underlying Tryz.underlying104, sizeOf, typeInfo, hi0, Builtin.lenOf, Builtin.firstCells, hn, storeCells, loadCells, loadCellsFrom]
theorem wpList_append_zero {ops : Array Oper} {rest : List Oper} {o : Oper} {a : Act} {w : World} {Q : Exit → Act → World → Prop} (hgd : o.guard = none) (s x : Operand)
    (ho : o.op = .call { callee := .builtin .append, args := #[s, x], argTypes := #[104, 104] }) (p q : Option Addr) (n cap c : Nat) (hs : a.eval s = .slice p n cap) (hx : a.eval x = .slice q 0 c) (hn : n ≤ cap)
    (h : wpList Tryz.prog ops Q rest (a.put o.dst (.slice p n cap)) w) : wpList Tryz.prog ops Q (o :: rest) a w :=
  wpList_plain hgd fun _ hK => by
    have hrun := append_zero (w := w) (p := p) (q := q) (c := c) hn o.type
    unfold Oper.wp
    simp [execOp, ho, resolve, invoke, builtin, hs, hx, hrun, Result.andThen]
    exact hK _ _ h
theorem slice3 (W : World) (p : Option Addr) (n cap i : Nat) (hi : i ≤ n) (hn : n ≤ cap) (hp : p = none → n = 0) : ∃ v, (Instr.slice 104 (.slice p n cap) (some (.int .i64 i)) (some (.int .i64 n)) (some (.int .i64 n))).run Tryz.prog W = .ok v W := by
  obtain ⟨i0, hi0, hz0, hz1, hz2⟩ := info_parts rinfo
  have h1 : (i : Int) ≤ n := by omega
  have h2 : (n : Int) ≤ cap := by omega
  cases p with
  | none =>
    obtain rfl := hp rfl
    obtain rfl : i = 0 := by omega
    exact ⟨_, by simp [Instr.slice, run_underlying Tryz.underlying104, go_sem]; rfl⟩
  | some a => exact ⟨_, by simp [Instr.slice, run_underlying Tryz.underlying104, sizeOf, typeInfo, hi0, go_sem, h2, hi]; rfl⟩
/-- The first records of a row, where cells behind them have turned. -/
theorem RAt.cut {w : World} {B g n cap i : Nat} {E : List Re} (h : RAt w B (.slice (some ⟨g, 0, none⟩) n cap) E) (hn : n = E.length) (hi : i ≤ n) {vs : List Value} (hv : vs.length = (n - i) * 3) :
    RAt (w.setCells g (i * 3) vs) B (.slice (some ⟨g, 0, none⟩) i cap) (E.take i) := by
  subst hn
  have hl : (E.take i).length = i := by rw [List.length_take]; omega
  have hne : ∀ e ∈ E, ¬ e.1.ownBlock = some g := h.row_bod rfl
  have ho : Only (fun k => k = g) w (w.setCells g (i * 3) vs) := Only.setCells (S := fun k => k = g) (b := g) rfl _ _ (Only.refl _ _)
  refine ⟨?_, fun e he => own_kept (h.bod e (List.mem_of_mem_take he)) ho (fun k hk e2 => hne e (List.mem_of_mem_take he) (e2 ▸ hk)), fun e he => h.rok e (List.mem_of_mem_take he), ?_⟩
  · rcases h.row.2 with ⟨h1, _⟩ | ⟨g', cap', cur, h1, h2, h3, h4, h5, h6, h7⟩
    · cases h1
    · cases h1
      have h3' : w.heap[g]? = some (.cells cur.toList.toArray 119 (0, 0)) := by simpa using h3
      have hcs : cur.toList.length = cap * 3 := by rw [Array.length_toList, h6]
      have hb := cells_puts vs (i * 3) cur.toList w h3' (by omega)
      refine ⟨by rw [lrows_length], .inr ⟨g, cap, _, by rw [hl], h2, hb, by rw [hl]; omega, h5, ?_, ?_⟩⟩
      · rw [List.size_toArray, puts_length _ _ _ (by omega), hcs]
      · rw [hl, puts_take _ _ _ (Nat.le_refl _) (by omega), lrows_take, ← h7, List.take_take, Nat.min_eq_left (by omega)]
  · have h1 := h.small
    have e := List.take_append_drop i E
    rw [← e, rcs_app, ends_app] at h1
    omega
def DelPost (w : World) (B : Nat) (p : Option Addr) (cap i : Nat) (E : List Re) (e : Ending) (w' : World) : Prop := e = .returned (.slice p i cap) ∧ RAt w' B (.slice p i cap) (E.take i) ∧ Only (fun k => (Value.slice p i cap).ownBlock = some k) w w'
set_option maxRecDepth 20000 in
set_option maxHeartbeats 4000000 in
theorem delete_to (w : World) (B : Nat) (p : Option Addr) (n cap i : Nat) (E : List Re) (h : RAt w B (.slice p n cap) E) (hn : n = E.length) (hi : i ≤ n) :
    Calls Tryz.prog 94 #[.slice p n cap, .int .i64 i, .int .i64 n] w (DelPost w B p cap i E) := by
  have hcp : n ≤ cap ∧ (p = none → n = 0) := by
    rcases h.row.2 with ⟨h1, h2⟩ | ⟨g, cap', cur, h1, _, _, h3, _⟩
    · injection h1 with e1 e2 e3
      exact ⟨by omega, fun _ => e2⟩
    · injection h1 with e1 e2 e3
      subst e1 e3
      exact ⟨by omega, fun h => by cases h⟩
  obtain ⟨v3, hv3⟩ := slice3 w p n cap i hi hcp.1 hcp.2
  have hmm := h.many
  rw [← hn] at hmm
  have HN := Lib.hid hn
  have H := Lib.hid h
  by_cases he : i = n
  · subst he
    have HT : Hid (E.take i = E) := Lib.hid (List.take_of_length_le (by omega))
    clear h hn hi
    go_enter Tryz.func94, Tryz.ntmps94
    go_wp2
    go_ret
    exact ⟨rfl, by rw [HT.out]; exact H.out, Only.refl _ _⟩
  · obtain ⟨g, rfl⟩ : ∃ g, p = some ⟨g, 0, none⟩ := by
      rcases h.row.2 with ⟨h1, h2⟩ | ⟨g, cap', cur, h1, _⟩
      · injection h1; omega
      · injection h1 with e1 e2 e3
        exact ⟨g, e1⟩
    have hin : i < n := by omega
    have hne : ((i : Int) == (n : Int)) = false := by simp; omega
    have hic : (i : Int) ≤ cap := by omega
    have hnc : (n : Int) ≤ cap := by omega
    have hinn : (i : Int) ≤ n := by omega
    have hi0 : 0 ≤ (i : Int) := by omega
    have hap := fun (W : World) (q : Option Addr) (c : Nat) (ty : TypeId) => append_zero (w := W) (p := some ⟨g, 0, none⟩) (q := q) (n := i) (cap := cap) (c := c) (by omega) ty
    have hth : w.there g (i * 3) ((n - i) * 3) := by
      rcases h.row.2 with ⟨h1, _⟩ | ⟨g', cap', cur, h1, h2, h3, h4, h5, h6, h7⟩
      · cases h1
      · cases h1
        have h3' : w.heap[g]? = some (.cells cur.toList.toArray 119 (0, 0)) := by simpa using h3
        intro j hj
        constructor
        · rw [cell_of_row w g _ _ _ _ h3', List.getElem?_toArray, List.getElem?_eq_getElem (by rw [Array.length_toList, h6]; omega)]; rfl
        · simp [World.frozen?, h3]
    have hcl := fun ty c => clear_rec w.drew ty g (i * 3) (n - i) c (by omega) hth
    have hicN : i ≤ cap := by omega
    have hinN : i ≤ n := by omega
    clear h hn hi hth hap
    by_cases hcn : cap = n
    all_goals
      go_enter Tryz.func94, Tryz.ntmps94
      go_wp2_with fail
      try simp only [List.append]
      refine wp_region_noPanic ?_
      refine wp_region_held_drew (S := (fun _ => True)) (by kernel_rfl) trivial (fun hHeld => ?_)
      refine wpAnyH_take (i := 0) (v := ?_) (by simp only [List.getElem?_toArray, List.getElem?_cons_zero]; rfl) (by kernel_rfl) (by kernel_rfl) (by kernel_rfl) (fun _ _ _ h => h) (Or.inl ⟨by rfl, ?_⟩) (by assumption) ?_
      rotate_left
      · intro w hSw
        try dsimp only at hSw
        go_simp
        try with_reducible rfl
      try simp only [Act.put, List.setIfInBounds_toArray, List.set_cons_zero, List.set_cons_succ]
      refine wpAnyH_take (i := 1) (v := ?_) (by simp only [List.getElem?_toArray, List.getElem?_cons_succ, List.getElem?_cons_zero]; rfl) (by kernel_rfl) (by kernel_rfl) (by kernel_rfl) (fun _ _ _ h => h) (Or.inl ⟨by rfl, ?_⟩) (by assumption) ?_
      rotate_left
      · intro w hSw
        try dsimp only at hSw
        go_simp
        try with_reducible rfl
      try simp only [Act.put, List.setIfInBounds_toArray, List.set_cons_zero, List.set_cons_succ]
      refine wpAnyH_take (i := 2) (v := ?_) (by simp only [List.getElem?_toArray, List.getElem?_cons_succ, List.getElem?_cons_zero]; rfl) (by kernel_rfl) (by kernel_rfl) (by kernel_rfl) (fun _ _ _ h => h) (Or.inl ⟨by rfl, ?_⟩) (by assumption) ?_
      rotate_left
      · intro w hSw
        try dsimp only at hSw
        go_simp
        try with_reducible rfl
      try simp only [Act.put, List.setIfInBounds_toArray, List.set_cons_zero, List.set_cons_succ]
      refine wpAnyH_take (i := 3) (v := ?_) (by simp only [List.getElem?_toArray, List.getElem?_cons_succ, List.getElem?_cons_zero]; rfl) (by kernel_rfl) (by kernel_rfl) (by kernel_rfl) (fun _ _ _ h => h) (Or.inl ⟨by rfl, ?_⟩) (by assumption) ?_
      rotate_left
      · intro w hSw
        try dsimp only at hSw
        go_simp
        try with_reducible rfl
      try simp only [Act.put, List.setIfInBounds_toArray, List.set_cons_zero, List.set_cons_succ]
      refine wpAnyH_take (i := 4) (v := ?_) (by simp only [List.getElem?_toArray, List.getElem?_cons_succ, List.getElem?_cons_zero]; rfl) (by kernel_rfl) (by kernel_rfl) (by kernel_rfl) (fun _ _ _ h => h) (Or.inl ⟨by rfl, ?_⟩) (by assumption) ?_
      rotate_left
      · intro w hSw
        try dsimp only at hSw
        go_simp
        try with_reducible rfl
      try simp only [Act.put, List.setIfInBounds_toArray, List.set_cons_zero, List.set_cons_succ]
      refine wpAnyH_take (i := 5) (v := ?_) (by simp only [List.getElem?_toArray, List.getElem?_cons_succ, List.getElem?_cons_zero]; rfl) (by kernel_rfl) (by kernel_rfl) (by kernel_rfl) (fun _ _ _ h => h) (Or.inl ⟨by rfl, ?_⟩) (by assumption) ?_
      rotate_left
      · intro w hSw
        try dsimp only at hSw
        go_simp
        try with_reducible rfl
      try simp only [Act.put, List.setIfInBounds_toArray, List.set_cons_zero, List.set_cons_succ]
      refine wpAnyH_take (i := 6) (v := ?_) (by simp only [List.getElem?_toArray, List.getElem?_cons_succ, List.getElem?_cons_zero]; rfl) (by kernel_rfl) (by kernel_rfl) (by kernel_rfl) (fun _ _ _ h => h) (Or.inl ⟨by rfl, ?_⟩) (by assumption) ?_
      rotate_left
      · intro w hSw
        try dsimp only at hSw
        go_simp
        try with_reducible rfl
      try simp only [Act.put, List.setIfInBounds_toArray, List.set_cons_zero, List.set_cons_succ]
      refine wpAnyH_take (i := 7) (v := ?_) (by simp only [List.getElem?_toArray, List.getElem?_cons_succ, List.getElem?_cons_zero]; rfl) (by kernel_rfl) (by kernel_rfl) (by kernel_rfl) (fun _ _ _ h => h) (Or.inl ⟨by rfl, ?_⟩) (by assumption) ?_
      rotate_left
      · intro w hSw
        try dsimp only at hSw
        go_simp
        try with_reducible rfl
      try simp only [Act.put, List.setIfInBounds_toArray, List.set_cons_zero]
      refine wpAnyH_done (by kernel_rfl) ?_ _
      refine NoPanic.normal ?_
      go_wp2_with fail
      go_ret
      refine ⟨by first | rfl | (rw [hcn]; rfl), (H.out.kept (w' := w.drew) (T := fun _ => False) ⟨rfl, rfl, rfl, Nat.le_refl _, fun _ _ _ => rfl⟩ (fun _ _ h => h)).cut HN.out hinN (rz_len (n - i)), Only.setCells (S := fun k => (Value.slice (some ⟨g, 0, none⟩) i cap).ownBlock = some k) (b := g) rfl _ _ (Only.refl _ w).drew⟩
theorem lrows_one' : ∀ (a : Nat) (E : List Re), (∀ e ∈ E, e.1.oneCell' = true) → ∀ u ∈ lrows a E, u.oneCell' = true
  | _, [], _, u, hu => by simp [lrows] at hu
  | a, e :: E, h, u, hu => by
    rw [lrows] at hu
    rcases List.mem_append.1 hu with hu | hu
    · exact rrow_one a (h e (List.mem_cons_self ..)) u hu
    · exact lrows_one' _ E (fun x hx => h x (List.mem_cons_of_mem _ hx)) u hu
/-- Behind keep. -/
def KeepPost (w : World) (B l d : Nat) (nm : Key) (rv : Value) (E : List Re) (i : Nat) (e : Ending) (w' : World) : Prop :=
  e = .returned (.tuple #[]) ∧ ∃ rv', LAt w' B l d nm rv' (E.take i) ∧ Only (fun k => k = l ∨ rv.ownBlock = some k) w w' ∧ ∀ k, rv'.ownBlock = some k → (rv.ownBlock = some k ∨ w.heap.size ≤ k) ∧ k < w'.heap.size
theorem keep_end {w w2 : World} {B l d : Nat} {nm : Key} {rv rv2 : Value} {E F : List Re} (h : LAt w B l d nm rv E) (hl : w2.heap[l]? = w.heap[l]?) (h2 : RAt w2 B rv2 F) (ho : Only (fun k => k = l ∨ rv.ownBlock = some k) w w2) (hb : ∀ k, rv2.ownBlock = some k → rv.ownBlock = some k ∨ w.heap.size ≤ k) :
    LAt (w2.setCell ⟨l, 2, none⟩ rv2) B l d nm rv2 F ∧ Only (fun k => k = l ∨ rv.ownBlock = some k) w (w2.setCell ⟨l, 2, none⟩ rv2) ∧ ∀ k, rv2.ownBlock = some k → (rv.ownBlock = some k ∨ w.heap.size ≤ k) ∧ k < (w2.setCell ⟨l, 2, none⟩ rv2).heap.size := by
  have hl2 := hl.trans h.cell
  have hsz : (w2.setCell ⟨l, 2, none⟩ rv2).heap.size = w2.heap.size := by simp [World.setCell]
  have o : Only (fun j => j = l) w2 (w2.setCell ⟨l, 2, none⟩ rv2) := (Only.refl _ _).one (S := fun j => j = l) rfl _
  refine ⟨⟨Lib.heap_setCell_same hl2 _, h2.kept o ?_, h.bl⟩, ho.one (.inl rfl) _, fun k hk => ⟨hb k hk, by rw [hsz]; exact (h2.row.lt k hk).2⟩⟩
  rintro k (hk | ⟨e, he, hk⟩) rfl
  · obtain ⟨cs', hcs⟩ := own_type h2.row hk
    rw [hl2] at hcs
    simp at hcs
  · obtain ⟨cs', hcs⟩ := own_type (h2.bod e he) hk
    rw [hl2] at hcs
    simp at hcs
theorem keep_fits {n : Nat} (h : n ≤ 111111111) : 0 + n ≤ maxLen ∧ (0 + n) * 40 ≤ 140737488355328 := by unfold maxLen; omega
set_option maxRecDepth 20000 in
set_option maxHeartbeats 4000000 in
theorem keep_to (w : World) (B l d : Nat) (nm : Key) (rv : Value) (E : List Re) (i : Nat) (h : LAt w B l d nm rv E) (hi : i ≤ E.length) :
    Calls Tryz.prog 73 #[.pointer (some ⟨l, 0, none⟩), .int .i64 i] w (KeepPost w B l d nm rv E i) := by
  obtain ⟨p, cap, rfl⟩ := h.ra.slice
  obtain ⟨i0, hi0, hz0, hz1, hz2⟩ := info_parts rinfo
  have hmm := h.ra.many
  have c2 := h.c2
  have H := Lib.hid h
  obtain ⟨n, hn⟩ : ∃ n, n = E.length := ⟨_, rfl⟩
  have HN := Lib.hid hn
  have hd := delete_to w.drew B p n cap i E (by rw [hn]; exact h.ra.kept (T := fun _ => False) ⟨rfl, rfl, rfl, Nat.le_refl _, fun _ _ _ => rfl⟩ (fun _ _ h => h)) hn (by omega)
  have HD := Lib.hid hd
  have hcm : cap ≤ maxLen := by
    rcases h.ra.row.2 with ⟨h1, h2⟩ | ⟨g, cap', cur, h1, _, _, _, h5, _⟩
    · injection h1 with e1 e2 e3
      rw [e3]; exact Nat.zero_le _
    · injection h1 with e1 e2 e3
      rw [e3]; exact h5
  have hq : IntKind.i64.wrap ((cap : Int) / 4) = (cap : Int) / 4 := IntWalk.i64_in _ (by unfold maxLen at hcm; omega)
  rw [← hn] at c2 hmm hi ⊢
  clear h hn hd hcm
  go_enter Tryz.func73, Tryz.ntmps73
  go_wp2_with fail
  try simp only [List.append]
  refine wp_region_noPanic ?_
  refine wp_region_held_drew (S := (fun W => W.cell? ⟨l, 2, none⟩ = some (.slice p n cap))) (by kernel_rfl) c2 (fun hHeld => ?_)
  refine wpAnyH_take (i := 0) (v := ?_) (by simp only [List.getElem?_toArray, List.getElem?_cons_zero]; rfl) (by kernel_rfl) (by kernel_rfl) (by kernel_rfl) (fun _ _ _ h => h) (Or.inl ⟨by rfl, ?_⟩) (by assumption) ?_
  rotate_left
  · intro w hSw
    try dsimp only at hSw
    go_simp
    try with_reducible rfl
  try simp only [Act.put, List.setIfInBounds_toArray, List.set_cons_zero, List.set_cons_succ]
  refine wpAnyH_take (i := 1) (v := ?_) (by simp only [List.getElem?_toArray, List.getElem?_cons_succ, List.getElem?_cons_zero]; rfl) (by kernel_rfl) (by kernel_rfl) (by kernel_rfl) (fun _ _ _ h => h) (Or.inl ⟨by rfl, ?_⟩) (by assumption) ?_
  rotate_left
  · intro w hSw
    try dsimp only at hSw
    go_simp
    try with_reducible rfl
  try simp only [Act.put, List.setIfInBounds_toArray, List.set_cons_zero, List.set_cons_succ]
  refine wpAnyH_take (i := 2) (v := ?_) (by simp only [List.getElem?_toArray, List.getElem?_cons_succ, List.getElem?_cons_zero]; rfl) (by kernel_rfl) (by kernel_rfl) (by kernel_rfl) (fun _ _ _ h => h) (Or.inl ⟨by rfl, ?_⟩) (by assumption) ?_
  rotate_left
  · intro w hSw
    try dsimp only at hSw
    go_simp
    try with_reducible rfl
  try simp only [Act.put, List.setIfInBounds_toArray, List.set_cons_zero, List.set_cons_succ]
  refine wpAnyH_take (i := 3) (v := ?_) (by simp only [List.getElem?_toArray, List.getElem?_cons_succ, List.getElem?_cons_zero]; rfl) (by kernel_rfl) (by kernel_rfl) (by kernel_rfl) (fun _ _ _ h => h) (Or.inl ⟨by rfl, ?_⟩) (by assumption) ?_
  rotate_left
  · intro w hSw
    try dsimp only at hSw
    go_simp
    try with_reducible rfl
  try simp only [Act.put, List.setIfInBounds_toArray, List.set_cons_zero, List.set_cons_succ]
  refine wpAnyH_take (i := 4) (v := ?_) (by simp only [List.getElem?_toArray, List.getElem?_cons_succ, List.getElem?_cons_zero]; rfl) (by kernel_rfl) (by kernel_rfl) (by kernel_rfl) (fun _ _ _ h => h) (Or.inl ⟨by rfl, ?_⟩) (by assumption) ?_
  rotate_left
  · intro w hSw
    try dsimp only at hSw
    go_simp
    try with_reducible rfl
  try simp only [Act.put, List.setIfInBounds_toArray, List.set_cons_zero, List.set_cons_succ]
  refine wpAnyH_take (i := 5) (v := ?_) (by simp only [List.getElem?_toArray, List.getElem?_cons_succ, List.getElem?_cons_zero]; rfl) (by kernel_rfl) (by kernel_rfl) (by kernel_rfl) (fun _ _ _ h => h) (Or.inl ⟨by rfl, ?_⟩) (by assumption) ?_
  rotate_left
  · intro w hSw
    try dsimp only at hSw
    go_simp
    try with_reducible rfl
  try simp only [Act.put, List.setIfInBounds_toArray, List.set_cons_zero, List.set_cons_succ]
  refine wpAnyH_take (i := 6) (v := ?_) (by simp only [List.getElem?_toArray, List.getElem?_cons_succ, List.getElem?_cons_zero]; rfl) (by kernel_rfl) (by kernel_rfl) (by kernel_rfl) (fun _ _ _ h => h) (Or.inl ⟨by rfl, ?_⟩) (by assumption) ?_
  rotate_left
  · intro w hSw
    try dsimp only at hSw
    go_simp
    try with_reducible rfl
  try simp only [Act.put, List.setIfInBounds_toArray, List.set_cons_zero, List.set_cons_succ]
  refine wpAnyH_take (i := 7) (v := ?_) (by simp only [List.getElem?_toArray, List.getElem?_cons_succ, List.getElem?_cons_zero]; rfl) (by kernel_rfl) (by kernel_rfl) (by kernel_rfl) (fun _ _ _ h => h) (Or.inl ⟨by rfl, ?_⟩) (by assumption) ?_
  rotate_left
  · intro w hSw
    try dsimp only at hSw
    go_simp
    try with_reducible rfl
  try simp only [Act.put, List.setIfInBounds_toArray, List.set_cons_zero, List.set_cons_succ]
  refine wpAnyH_take (i := 8) (v := ?_) (by simp only [List.getElem?_toArray, List.getElem?_cons_succ, List.getElem?_cons_zero]; rfl) (by kernel_rfl) (by kernel_rfl) (by kernel_rfl) (fun _ _ _ h => h) (Or.inl ⟨by rfl, ?_⟩) (by assumption) ?_
  rotate_left
  · intro w hSw
    try dsimp only at hSw
    go_simp
    try with_reducible rfl
  try simp only [Act.put, List.setIfInBounds_toArray, List.set_cons_zero, List.set_cons_succ]
  refine wpAnyH_take (i := 9) (v := ?_) (by simp only [List.getElem?_toArray, List.getElem?_cons_succ, List.getElem?_cons_zero]; rfl) (by kernel_rfl) (by kernel_rfl) (by kernel_rfl) (fun _ _ _ h => h) (Or.inl ⟨by rfl, ?_⟩) (by assumption) ?_
  rotate_left
  · intro w hSw
    try dsimp only at hSw
    go_simp
    try with_reducible rfl
  try simp only [Act.put, List.setIfInBounds_toArray, List.set_cons_zero, List.set_cons_succ]
  refine wpAnyH_ready (rs := [10]) (by kernel_rfl) (by simp) ?_
  refine AllReadyH.cons (by simp only [List.getElem?_toArray, List.getElem?_cons_succ, List.getElem?_cons_zero]; rfl) (fun K hK => ?_) AllReadyH.nil
  go_simp
  refine HD.out.mono ?_
  rintro e w2 ⟨rfl, r2, o2⟩
  have R2 := Lib.hid r2
  have O2 : Hid (Only (fun k => (Value.slice p i cap).ownBlock = some k) w w2) := Lib.hid ⟨o2.os, o2.tape, o2.output, o2.size, o2.block⟩
  have hlr : ¬ (Value.slice p i cap).ownBlock = some l := by have := H.out.ne_row; cases p <;> exact this
  have HL2 : Hid (w2.heap[l]? = w.heap[l]?) := Lib.hid (o2.block l (lt_of_block H.out.cell) hlr)
  have hl2 := HL2.out.trans H.out.cell
  have c2' : w2.cell? ⟨l, 2, none⟩ = some (.slice p n cap) := by rw [HN.out, cell_of_row w2 l 2 _ _ _ hl2]; rfl
  have f2 : w2.frozen? ⟨l, 2, none⟩ = false := by simp [World.frozen?, hl2]
  have HLT2 := Lib.hid (lt_of_block hl2)
  clear r2 o2 HD hl2 hlr
  go_wp2_with fail
  refine hK.out _ _ c2' (fun hHeld => ?_)
  clear hK K
  try simp only [Act.put, List.setIfInBounds_toArray, List.set_cons_zero, List.set_cons_succ]
  refine wpAnyH_take (i := 11) (v := ?_) (by simp only [List.getElem?_toArray, List.getElem?_cons_succ, List.getElem?_cons_zero]; rfl) (by kernel_rfl) (by kernel_rfl) (by kernel_rfl) (fun _ _ _ h => h) (Or.inl ⟨by rfl, ?_⟩) (by assumption) ?_
  rotate_left
  · intro w hSw
    try dsimp only at hSw
    go_simp
    try with_reducible rfl
  try simp only [Act.put, List.setIfInBounds_toArray, List.set_cons_zero, List.set_cons_succ]
  refine wpAnyH_done (by kernel_rfl) ?_ _
  refine NoPanic.normal ?_
  have HO2 : Hid (Only (fun k => k = l ∨ (Value.slice p n cap).ownBlock = some k) w w2) := Lib.hid (O2.out.mono (fun k _ e => by cases p with | none => simp [Value.ownBlock] at e | some a => exact .inr e))
  by_cases hsm : (i : Int) < (cap : Int) / 4
  case' neg =>
    clear c2 c2'
    go_wp2_with fail
    go_end0
    have hk := keep_end (rv := .slice p n cap) (by have := H.out; rw [← HN.out] at this; exact this) HL2.out R2.out HO2.out (fun k hk => by cases p with | none => simp [Value.ownBlock] at hk | some a => exact .inl hk)
    exact ⟨rfl, _, hk⟩
  case' pos =>
    by_cases hi1 : i = 0
    case' pos =>
      subst hi1
      clear c2 c2'
      go_wp2_with (at_builtin; refine wpList_append_zero (by rfl) _ _ (by rfl) none p 0 0 cap (by rfl) (by rfl) (Nat.le_refl _) ?_)
      go_end0
      have hk := keep_end (rv := .slice p n cap) (rv2 := .slice none 0 0) (by have := H.out; rw [← HN.out] at this; exact this) HL2.out (RAt.nil w2 B) HO2.out (fun k hk => by simp [Value.ownBlock] at hk)
      exact ⟨rfl, _, hk⟩
    case' neg =>
      have hi2 : 0 < i := by omega
      obtain ⟨g, hg⟩ : ∃ g, p = some ⟨g, 0, none⟩ := by
        rcases R2.out.row.2 with ⟨h1, h2⟩ | ⟨g, cap', cur, h1, _⟩
        · rw [List.length_take] at h2
          have := HN.out
          omega
        · injection h1 with e1 e2 e3
          exact ⟨g, e1⟩
      subst hg
      have hlt : (E.take i).length = i := by rw [List.length_take, ← HN.out]; omega
      have HFT := Lib.hid (keep_fits (n := i) (by omega))
      have HNW : Hid (∀ j u, (lrows 0 (E.take i))[j]? = some u → w2.cell? ((⟨g, 0, none⟩ : Addr).add j) = some u) := Lib.hid (fun j u hj => R2.out.row.cells (g := g) rfl j u hj)
      have HLL : Hid ((lrows 0 (E.take i)).length = i * 3) := Lib.hid (by rw [lrows_length, hlt])
      have HON : Hid (∀ u ∈ lrows 0 (E.take i), u.oneCell' = true) := Lib.hid (lrows_one' 0 _ (fun e he => own_one (R2.out.bod e he)))
      have HB2 : Hid (B ≤ w2.heap.size) := Lib.hid (Nat.le_trans H.out.bl (Nat.le_of_lt (Nat.lt_of_lt_of_le (lt_of_block H.out.cell) HO2.out.size)))
      have HTL := Lib.hid hlt
      clear c2 c2' f2 hi1 hlt
      go_wp2_with (at_builtin; refine wpList_append_lies _ (by rfl) _ _ _ (by rfl) B 119 i0 _ 3 40 Tryz.underlying104 hi0 hz0 hz1 hz2 rfl (by omega) (.slice none 0 0) 0 [] (by rfl) (World.ownsRow_nil _ _ _ _) ⟨g, 0, none⟩ i cap (lrows 0 (E.take i)) (by rfl) HLL.out HNW.out HON.out hi2 HFT.out.1 HFT.out.2 HB2.out _ rfl ?_; intro gg cc w3 own3 grow3 hat3 hlt3; have O3 := Lib.hid own3; have G3 : Hid (Only (fun _ => False) w2 w3) := Lib.hid ((Only.refl _ _).grown grow3 (fun k _ e => by simp [Value.ownBlock] at e)); have A3 := Lib.hid hat3; have hl3 := (G3.out.block l HLT2.out (fun h => h)).trans (HL2.out.trans H.out.cell); have c3 : w3.cell? ⟨l, 2, none⟩ = some (.slice (some ⟨g, 0, none⟩) n cap) := (by rw [HN.out, cell_of_row w3 l 2 _ _ _ hl3]; rfl); have f3 : w3.frozen? ⟨l, 2, none⟩ = false := (by simp [World.frozen?, hl3]); clear own3 grow3 hat3 hlt3 hl3)
      go_end0
      have h3 : RAt w3 B (.slice (some ⟨gg, 0, none⟩) i cc) (E.take i) := {
        row := by have := O3.out; rw [HTL.out]; simpa only [Nat.zero_add, List.nil_append] using this
        bod := fun e he => own_kept (R2.out.bod e he) G3.out (fun _ _ h => h)
        rok := R2.out.rok
        small := R2.out.small }
      have hk := keep_end (rv := .slice (some ⟨g, 0, none⟩) n cap) (by have := H.out; rw [← HN.out] at this; exact this) ((G3.out.block l HLT2.out (fun h => h)).trans HL2.out) h3 (HO2.out.trans G3.out (fun _ h => h) (fun _ _ h => h.elim)) (fun k hk => by
        simp only [Value.ownBlock, Option.some.injEq] at hk
        subst hk
        rcases A3.out with e | e
        · simp [Value.ownBlock] at e
        · exact .inr (by rw [e]; exact HO2.out.size))
      exact ⟨rfl, _, hk⟩
end Go.Proofs.YtageblggakfbdaaGreatDoor
