/- take, the visitor of first, and first itself, for the three types that package oops asks for. Condition: errors.errorType holds what its text lays; at most 131072 layers. -/
import Derived.Test.YtageblggakfbdaaDoorOopsAl
namespace Go.Proofs.YtageblggakfbdaaDoor
open Go.RowKit Go.Extern.Stop Go.Stop Go.Extern

/-- The error's own value, if it is of type t. -/
def hit (t : TypeId) : Value → Option Value
  | .iface s x => if s = t then some x else none
  | _ => none
theorem fnd_nil (t : TypeId) (b : Value) (hb : Base0 b) : fnd t [] b = hit t b := by
  rcases hb with (⟨k, rfl⟩ | rfl | ⟨p, rfl⟩) | rfl <;> rfl
theorem fnd_cons (t : TypeId) (l : Lnk) (M : List Lnk) (b : Value) : fnd t (l :: M) b = (match hit t (val (l :: M) b) with | some x => some x | none => fnd t M b) := by
  show (if l.ty = t then _ else _) = _
  by_cases h : l.ty = t
  · rw [if_pos h]; simp only [hit, val, h, if_true]
  · rw [if_neg h]; simp only [hit, val, h, if_false]

theorem Ch.away {W : World} {c : Nat} {old : Value} {T : TypeId} (hTo : T ≠ 59 ∧ T ≠ 62 ∧ T ≠ 41) (hr : W.heap[c]? = some (.cells #[old] T (0, 0))) : ∀ {L : List Lnk} {b : Value}, Ch W L b → ∀ l ∈ L, l.blk ≠ c
  | [], _, _, _, h => by cases h
  | l :: L, b, ⟨h1, _, _, h4⟩, x, hx => by
    rcases List.mem_cons.1 hx with rfl | hx
    · intro e
      rw [e, hr] at h1
      cases x
      · simp only [Lnk.obj, Option.some.injEq, Obj.cells.injEq] at h1; exact hTo.1 h1.2.1
      · simp only [Lnk.obj, Option.some.injEq, Obj.cells.injEq] at h1; exact hTo.2.1 h1.2.1
      · simp only [Lnk.obj, Option.some.injEq, Obj.cells.injEq] at h1; exact hTo.2.2 h1.2.1
    · exact Ch.away hTo hr h4 x hx

section
variable {T FT : TypeId} {g : FuncId} {c c2 : Nat} {b fv : Value}
/-- Before the visitor comes to M: what the chain L holds is what M holds. -/
def PMf (T FT : TypeId) (c c2 : Nat) (fv : Value) (w0 : World) (L : List Lnk) (b : Value) (M : List Lnk) (W : World) : Prop :=
  Below w0.heap.size w0 W ∧ Ch W M b ∧ (∃ old, W.heap[c]? = some (.cells #[old] T (0, 0))) ∧ fnd T M b = fnd T L b ∧ W.heap[c2]? = some (.cells #[fv] FT (0, 0))
def Finf (T : TypeId) (c : Nat) (w0 : World) (L : List Lnk) (b : Value) (W : World) : Prop := Below w0.heap.size w0 W ∧ ∃ x, fnd T L b = some x ∧ W.heap[c]? = some (.cells #[x] T (0, 0))
def Falsf (T : TypeId) (w0 : World) (L : List Lnk) (b : Value) (W : World) : Prop := Below w0.heap.size w0 W ∧ fnd T L b = none
variable (h1 : T ≠ 4) (h2 : T ≠ 125) (h3 : T ≠ 118)
include h1 h2 h3
theorem PMf_stable (f1 : FT ≠ 4) (f2 : FT ≠ 125) (f3 : FT ≠ 118) (w0 : World) (L : List Lnk) (M : List Lnk) : Stable w0.heap.size (PMf T FT c c2 fv w0 L b M) := fun _ _ ⟨a1, a2, ⟨old, a3⟩, a4, a5⟩ j =>
  ⟨a1.trans (j.below a1.size), Ch.jk j a2, ⟨old, j.same a3 h1 h2 h3⟩, a4, j.same a5 f1 f2 f3⟩
theorem Finf_stable (w0 : World) (L : List Lnk) : Stable w0.heap.size (Finf T c w0 L b) := fun _ _ ⟨a1, x, a2, a3⟩ j => ⟨a1.trans (j.below a1.size), x, a2, j.same a3 h1 h2 h3⟩
omit h1 h2 h3 in
theorem Falsf_stable (w0 : World) (L : List Lnk) : Stable w0.heap.size (Falsf T w0 L b) := fun _ _ ⟨a1, a2⟩ j => ⟨a1.trans (j.below a1.size), a2⟩

omit h3 in
/-- From what the visitor's function does to what the search asks of it. -/
theorem vis_first (h4 : T ≠ 81) (hTo : T ≠ 59 ∧ T ≠ 62 ∧ T ≠ 41) (w0 : World) (L : List Lnk) (hc : w0.heap.size ≤ c) (hcc : c2 ≠ c) (hb0 : Base0 b)
    (hg : ∀ M W old, W.heap[c]? = some (.cells #[old] T (0, 0)) → W.heap[c2]? = some (.cells #[fv] FT (0, 0)) → Calls Tryd.prog g #[val M b, .pointer (some ⟨c, 0, none⟩), .pointer (some ⟨c2, 0, none⟩)] W fun e w' =>
      e = .returned (.bool (hit T (val M b)).isSome) ∧ w'.heap[c]? = some (.cells #[(hit T (val M b)).getD old] T (0, 0)) ∧ Only (fun k => k = c) W w') (M : List Lnk) (W : World) (hp : PMf T FT c c2 fv w0 L b M W) :
    Calls Tryd.prog g #[val M b, .pointer (some ⟨c, 0, none⟩), .pointer (some ⟨c2, 0, none⟩)] W fun e w' => ∃ r, e = .returned (.bool r) ∧ QM b (PMf T FT c c2 fv w0 L b) (Finf T c w0 L b) (Falsf T w0 L b) M r w' ∧ Fr W w' := by
  obtain ⟨p1, p2, ⟨old, p3⟩, p4, p5⟩ := hp
  refine (hg M W old p3 p5).mono ?_
  rintro e w' ⟨rfl, q1, q2⟩
  have hfr : Fr W w' := ⟨q2.size, fun k cs T' fr hk hT => by
    have hkc : k ≠ c := by
      intro e
      subst e
      rw [p3] at hk
      cases hk
      rcases hT with h | h | h
      · exact h1 h
      · exact h2 h
      · exact h4 h
    exact (q2.block k (Array.getElem?_eq_some_iff.1 hk).1 hkc).trans hk⟩
  have hbel : Below w0.heap.size w0 w' := p1.trans (q2.below p1.size fun k hk => hk ▸ hc)
  have hch : Ch w' M b := p2.only q2 (Ch.away hTo p3 p2)
  have hfv := (q2.block c2 (Array.getElem?_eq_some_iff.1 p5).1 hcc).trans p5
  cases hh : hit T (val M b) with
  | some x =>
    rw [hh] at q1
    refine ⟨true, rfl, ?_, hfr⟩
    have hx : fnd T M b = some x := by
      cases M with
      | nil =>
        rw [fnd_nil T b hb0]; exact hh
      | cons l M => rw [fnd_cons, hh]
    exact ⟨hbel, x, by rw [← p4]; exact hx, q1⟩
  | none =>
    rw [hh] at q1
    refine ⟨false, rfl, ?_, hfr⟩
    cases M with
    | nil =>
      exact ⟨hbel, by rw [← p4, fnd_nil T b hb0]; exact hh⟩
    | cons l M =>
      refine ⟨⟨hbel, hch.2.2.2, ⟨_, q1⟩, ?_, hfv⟩, hch⟩
      rw [← p4, fnd_cons, hh]
end
/-- chain: a link around the error, with a search of its own. -/
theorem chain_any (w : World) (u : Value) (g : FuncId) (c c2 : Nat) (hu : (∃ t x, u = .iface t x) ∨ u = .nilIface) : Calls Tryd.prog 26 #[u, suit g c c2] w fun e w' => ∃ s, e = .returned (lk u 0 s) ∧ Below w.heap.size w w' ∧ Srch w' s (suit g c c2) 0 ∧ w.heap.size ≤ s := by
  have hmk := fun w => run_makeMap (P := Tryd.prog) 123 w
  have HN : Hid (Calls Tryd.prog 41 #[.int .i64 268435456, suit g c c2] w fun e w' => e = .returned (.pointer (some ⟨w.heap.size + 1, 0, none⟩)) ∧ w' = (w.alloc (.map #[] 0)).alloc (.cells #[suit g c c2, .int .i64 0, .int .i64 268435456, .map (some w.heap.size), .int .i64 0] 125)) := Lib.hid (by
    go_enter Tryd.func41, Tryd.ntmps41
    go_wp2
    go_ret
    exact ⟨by simp, rfl⟩)
  have b2 := ((Below.refl w.heap.size w).alloc (Nat.le_refl _) (.map #[] 0)).alloc (by simp) (.cells #[suit g c c2, .int .i64 0, .int .i64 268435456, .map (some w.heap.size), .int .i64 0] 125)
  have hs : ((w.alloc (.map #[] 0)).alloc (.cells #[suit g c c2, .int .i64 0, .int .i64 268435456, .map (some w.heap.size), .int .i64 0] 125)).heap[w.heap.size + 1]? = some (.cells #[suit g c c2, .int .i64 0, .int .i64 268435456, .map (some w.heap.size), .int .i64 0] 125 (0, 0)) := by
    have := heap_alloc_new (w.alloc (.map #[] 0)) (.cells #[suit g c c2, .int .i64 0, .int .i64 268435456, .map (some w.heap.size), .int .i64 0] 125)
    simpa using this
  have HB := Lib.hid b2
  have HS := Lib.hid hs
  clear b2 hs
  rcases hu with ⟨t, x, rfl⟩ | rfl
  all_goals
    go_enter Tryd.func26, Tryd.ntmps26
    go_wp2_with fail
    refine HN.out.mono ?_
    rintro e w' ⟨rfl, rfl⟩
    go_wp2_with fail
    go_ret
    exact ⟨_, rfl, HB.out, ⟨_, HS.out⟩, Nat.le_succ _⟩
theorem val_shape {L : List Lnk} {b : Value} (hb : Base b ∨ (b = .nilIface ∧ L = [])) : (∃ t x, val L b = .iface t x) ∨ val L b = .nilIface := by
  rcases hb with h | ⟨rfl, rfl⟩
  · exact .inl (val_iface h L)
  · exact .inr rfl
theorem tkPS (x : Value) (w : World) : (Instr.typeAssert (.iface 54 x) 25 55 true).run Tryd.prog w = .ok (.tuple #[.pointer none, .bool false]) w := by kernel_rfl
theorem tkPP (x : Value) (w : World) : (Instr.typeAssert (.iface 55 x) 25 55 true).run Tryd.prog w = .ok (.tuple #[x, .bool true]) w := by kernel_rfl
theorem tkPW (x : Value) (w : World) : (Instr.typeAssert (.iface 37 x) 25 55 true).run Tryd.prog w = .ok (.tuple #[.pointer none, .bool false]) w := by kernel_rfl
theorem tkPE (x : Value) (w : World) : (Instr.typeAssert (.iface 29 x) 25 55 true).run Tryd.prog w = .ok (.tuple #[.pointer none, .bool false]) w := by kernel_rfl
theorem tkPX (x : Value) (w : World) : (Instr.typeAssert (.iface 65 x) 25 55 true).run Tryd.prog w = .ok (.tuple #[.pointer none, .bool false]) w := by kernel_rfl
theorem tkPN (x : Value) (w : World) : (Instr.typeAssert (.iface 93 x) 25 55 true).run Tryd.prog w = .ok (.tuple #[.pointer none, .bool false]) w := by kernel_rfl
theorem tkP0 (w : World) : (Instr.typeAssert .nilIface 25 55 true).run Tryd.prog w = .ok (.tuple #[.pointer none, .bool false]) w := by kernel_rfl

set_option maxRecDepth 10000 in
set_option maxHeartbeats 1600000 in
theorem takeP (W : World) (M : List Lnk) (b : Value) (hb : Base0 b) (c : Nat) (old : Value) (hc : W.heap[c]? = some (.cells #[old] 55 (0, 0))) : Calls Tryd.prog 43 #[val M b, .pointer (some ⟨c, 0, none⟩)] W fun e w' => e = .returned (.bool (hit 55 (val M b)).isSome) ∧ w'.heap[c]? = some (.cells #[(hit 55 (val M b)).getD old] 55 (0, 0)) ∧ Only (fun k => k = c) W w' := by
  have hn0 := nilAs
  have m0 := cell_obj hc 0 (u := old) rfl
  have mf := free_of_one hc
  have HC := Lib.hid hc
  clear hc
  cases M with
  | nil =>
    rcases hb with (⟨k, rfl⟩ | rfl | ⟨p, rfl⟩) | rfl
    · simp only [show val [] (.iface 29 (.int .i64 k)) = (.iface 29 (.int .i64 k)) from rfl]
      have ht := tkPE
      have hna := noAsE
      go_enter Tryd.func43, Tryd.ntmps43
      go_wp2
      go_ret
      exact ⟨rfl, HC.out, Only.refl _ _⟩
    · simp only [show val [] (.iface 65 (.agg #[])) = (.iface 65 (.agg #[])) from rfl]
      have ht := tkPX
      have hna := noAsX
      go_enter Tryd.func43, Tryd.ntmps43
      go_wp2
      go_ret
      exact ⟨rfl, HC.out, Only.refl _ _⟩
    · simp only [show val [] (.iface 93 (.pointer (some p))) = (.iface 93 (.pointer (some p))) from rfl]
      have ht := tkPN
      have hna := noAsN
      go_enter Tryd.func43, Tryd.ntmps43
      go_wp2
      go_ret
      exact ⟨rfl, HC.out, Only.refl _ _⟩
    · simp only [show val [] .nilIface = .nilIface from rfl]
      have ht := tkP0
      go_enter Tryd.func43, Tryd.ntmps43
      go_wp2
      go_ret
      exact ⟨rfl, HC.out, Only.refl _ _⟩
  | cons l M =>
    cases l with
    | step p q =>
      simp only [val_step]
      have ht := tkPS
      have hna := noAsS
      go_enter Tryd.func43, Tryd.ntmps43
      go_wp2
      go_ret
      exact ⟨rfl, HC.out, Only.refl _ _⟩
    | place p q =>
      simp only [val_place]
      have ht := tkPP
      have hna := noAsP
      go_enter Tryd.func43, Tryd.ntmps43
      go_wp2
      go_ret
      exact ⟨rfl, one_setCell HC.out, Only.setCell (S := fun k => k = c) (Only.refl _ _) (p := ⟨c, 0, none⟩) rfl _⟩
    | which p q =>
      simp only [val_which]
      have ht := tkPW
      have hna := noAsW
      go_enter Tryd.func43, Tryd.ntmps43
      go_wp2
      go_ret
      exact ⟨rfl, HC.out, Only.refl _ _⟩
theorem countP (W : World) (q : Nat) : Calls Tryd.prog 30 #[.pointer (some ⟨q, 0, none⟩)] W fun e w' => e = .returned (.bool true) ∧ W = w' := by
  go_enter Tryd.func30, Tryd.ntmps30
  go_wp2
  go_ret
  exact ⟨rfl, rfl⟩
theorem shpP (M : List Lnk) (b : Value) (hb : Base0 b) : hit 55 (val M b) = none ∨ ∃ q : Nat, hit 55 (val M b) = some (.pointer (some ⟨q, 0, none⟩)) := by
  cases M with
  | nil => rcases hb with (⟨k, rfl⟩ | rfl | ⟨p, rfl⟩) | rfl <;> first | exact .inl rfl | exact .inr ⟨_, rfl⟩
  | cons l M => cases l <;> first | exact .inl rfl | exact .inr ⟨_, rfl⟩
set_option maxHeartbeats 1600000 in
theorem closP (W : World) (M : List Lnk) (b : Value) (hb : Base0 b) (c c2 : Nat) (hcc : c2 ≠ c) (old : Value) (hc : W.heap[c]? = some (.cells #[old] 55 (0, 0))) (hc2 : W.heap[c2]? = some (.cells #[.func (.func 30) #[] #[]] 74 (0, 0))) :
    Calls Tryd.prog 42 #[val M b, .pointer (some ⟨c, 0, none⟩), .pointer (some ⟨c2, 0, none⟩)] W fun e w' => e = .returned (.bool (hit 55 (val M b)).isSome) ∧ w'.heap[c]? = some (.cells #[(hit 55 (val M b)).getD old] 55 (0, 0)) ∧ Only (fun k => k = c) W w' := by
  have HT := Lib.hid (takeP W M b hb c old hc)
  have HC2 := Lib.hid hc2
  have HCC := Lib.hid hcc
  have hsh := shpP M b hb
  clear hc hc2 hcc hb
  rcases hsh with hq | ⟨q, hq⟩
  · rw [hq] at HT ⊢
    simp only [Option.isSome_none, Option.getD_none] at HT ⊢
    clear hq
    obtain ⟨u, hu⟩ : ∃ u, u = val M b := ⟨_, rfl⟩
    rw [← hu] at HT ⊢
    clear hu
    go_enter Tryd.func42, Tryd.ntmps42
    go_wp2_with fail
    refine HT.out.mono ?_
    rintro e w' ⟨rfl, h1, h2⟩
    have H1 := Lib.hid h1
    have H2 := Lib.hid h2
    clear h1 h2
    go_wp2_with fail
    go_ret
    exact ⟨rfl, H1.out, H2.out⟩
  · rw [hq] at HT ⊢
    simp only [Option.isSome_some, Option.getD_some] at HT ⊢
    clear hq
    obtain ⟨u, hu⟩ : ∃ u, u = val M b := ⟨_, rfl⟩
    rw [← hu] at HT ⊢
    clear hu
    go_enter Tryd.func42, Tryd.ntmps42
    go_wp2_with fail
    refine HT.out.mono ?_
    rintro e w' ⟨rfl, h1, h2⟩
    have m0 := cell_obj h1 0 (u := .pointer (some ⟨q, 0, none⟩)) rfl
    have n0 := cell_obj ((h2.block c2 (Array.getElem?_eq_some_iff.1 HC2.out).1 HCC.out).trans HC2.out) 0 (u := .func (.func 30) #[] #[]) rfl
    have H1 := Lib.hid h1
    have H2 := Lib.hid h2
    clear h1 h2
    go_wp2_with fail
    refine (countP w' q).mono ?_
    rintro e w' ⟨rfl, rfl⟩
    go_wp2_with fail
    go_ret
    exact ⟨rfl, H1.out, H2.out⟩
theorem enterCP (args : Array Value) (w : World) : (callFunc 42 args).run Tryd.prog w = .ok (.enter 42 args) w := by kernel_rfl
theorem asgLP (w : World) : (ReflectliteType.relation "AssignableTo" ReflectliteType.assignableTo #[.agg #[hd 105], .iface 110 (.agg #[hd 55])]).run Tryd.prog w = .ok (.bool false) w := by kernel_rfl
theorem shP {L : List Lnk} {b x : Value} (hb : Base b ∨ (b = .nilIface ∧ L = [])) (hx : fnd 55 L b = some x) : ∃ q, x = .pointer q := by
  rcases hb with h | ⟨rfl, rfl⟩
  · obtain ⟨e, rfl⟩ := ok_ptr _ (by decide) (by decide) L b h x hx; exact ⟨_, rfl⟩
  · cases hx
set_option maxHeartbeats 4000000 in
theorem fstP (w : World) (L : List Lnk) (b : Value) (hb : Base b ∨ (b = .nilIface ∧ L = [])) (hg : Glob w) (hc : Ch w L b) (hl : L.length ≤ 131072) :
    Calls Tryd.prog 29 #[val L b, .func (.func 30) #[] #[]] w fun e w' => e = .returned (.tuple #[(fnd 55 L b).getD (.pointer none), .bool (fnd 55 L b).isSome]) ∧ Below w.heap.size w w' := by
  have hb0 : Base0 b := by rcases hb with h | h; exact .inl h; exact .inr h.1
  have b2 := ((Below.refl w.heap.size w).alloc (Nat.le_refl _) (.cells #[.func (.func 30) #[] #[]] 74)).alloc (by simp) (.cells #[.pointer none] 55)
  have hc1 : ((w.alloc (.cells #[.func (.func 30) #[] #[]] 74)).alloc (.cells #[.pointer none] 55)).heap[w.heap.size + 1]? = some (.cells #[.pointer none] 55 (0, 0)) := by
    have := heap_alloc_new (w.alloc (.cells #[.func (.func 30) #[] #[]] 74)) (.cells #[.pointer none] 55)
    simpa using this
  have hc2 : ((w.alloc (.cells #[.func (.func 30) #[] #[]] 74)).alloc (.cells #[.pointer none] 55)).heap[w.heap.size]? = some (.cells #[.func (.func 30) #[] #[]] 74 (0, 0)) := by
    rw [Below.heap_alloc _ _ _ (by simp)]; exact heap_alloc_new w _
  have HB2 := Lib.hid b2
  have HC1 := Lib.hid hc1
  have HC2 := Lib.hid hc2
  have HCH := Lib.hid (hc.kb b2)
  have HGL := Lib.hid (hg.kb b2)
  have HVS := Lib.hid (val_shape hb)
  have HB := Lib.hid hb
  have HB0 := Lib.hid hb0
  have HL := Lib.hid hl
  have hmf : ∀ (fn : Fn) (first cap : Array Value) (w : World), (Instr.makeFunc fn first cap).run Tryd.prog w = .ok (.func fn first cap) w := fun _ _ _ _ => rfl
  have HSH := Lib.hid (fun x (hx : fnd 55 L b = some x) => shP hb hx)
  clear hb hb0 hg hc hl b2 hc1 hc2
  have HCA := Lib.hid (fun W c c2 => chain_any W (val L b) 42 c c2 HVS.out)
  have HAA := Lib.hid (fun W s (hB : Below w.heap.size w W) (hG : Glob W) (hch : Ch W L b) (h1 : W.heap[w.heap.size + 1]? = some (.cells #[.pointer none] 55 (0, 0))) (h2 : W.heap[w.heap.size]? = some (.cells #[.func (.func 30) #[] #[]] 74 (0, 0))) (hs : Srch W s (suit 42 (w.heap.size + 1) w.heap.size) 0) (hsl : w.heap.size ≤ s) =>
    alAs_any (B := w.heap.size) (g := 42) (c := w.heap.size + 1) (c2 := w.heap.size) enterCP (b := b) (PM := PMf 55 74 (w.heap.size + 1) w.heap.size (.func (.func 30) #[] #[]) w L b) (Fin := Finf 55 (w.heap.size + 1) w L b) (Fals := Falsf 55 w L b)
    (PMf_stable (by decide) (by decide) (by decide) (by decide) (by decide) (by decide) w L) (Finf_stable (by decide) (by decide) (by decide) w L) (Falsf_stable w L) (fun M W hp => ⟨hp.2.1, hp.1.size⟩)
    (fun M W hp => vis_first (by decide) (by decide) (by decide) (by decide) w L (Nat.le_succ _) (Nat.ne_of_lt (Nat.lt_succ_self _)) HB0.out (fun M W old h h2 => closP W M b HB0.out _ _ (Nat.ne_of_lt (Nat.lt_succ_self _)) old h h2) M W hp) asgLP tgtP W L HB.out s 0 (w.heap.size + 1) hsl HL.out hs (by have := HL.out; omega) hG ⟨hB, hch, ⟨_, h1⟩, rfl, h2⟩)
  obtain ⟨u, hu⟩ : ∃ u, u = val L b := ⟨_, rfl⟩
  rw [← hu] at HCA HAA ⊢
  clear hu
  go_enter Tryd.func29, Tryd.ntmps29
  go_wp2_with fail
  generalize (w.alloc (.cells #[.func (.func 30) #[] #[]] 74)).alloc (.cells #[.pointer none] 55) = W2 at *
  refine (HCA.out W2 _ _).mono ?_
  rintro e W4 ⟨s, rfl, b4, h4, g4⟩
  have HA4 := Lib.hid (HAA.out W4 s (HB2.out.trans (b4.mono HB2.out.size)) (HGL.out.kb b4) (HCH.out.kb b4) ((b4.block _ (Array.getElem?_eq_some_iff.1 HC1.out).1).trans HC1.out) ((b4.block _ (Array.getElem?_eq_some_iff.1 HC2.out).1).trans HC2.out) h4 (Nat.le_trans HB2.out.size g4))
  clear b4 h4 g4 HCA HAA
  go_wp2_with fail
  refine HA4.out.mono ?_
  rintro e w2 ⟨r, rfl, hr⟩
  cases r with
  | true =>
    obtain ⟨b3, x, hx, h3⟩ : Finf 55 (w.heap.size + 1) w L b w2 := hr
    obtain ⟨q, rfl⟩ := HSH.out x hx
    have m0 := cell_obj h3 0 (u := .pointer q) rfl
    have B3 := Lib.hid b3
    have HX := Lib.hid hx
    clear hx h3 b3
    go_wp2_with fail
    go_ret2
    exact ⟨by rw [HX.out]; rfl, B3.out⟩
  | false =>
    obtain ⟨b3, hx⟩ : Falsf 55 w L b w2 := hr
    have B3 := Lib.hid b3
    have HX := Lib.hid hx
    clear hx b3
    go_wp2_with fail
    go_ret2
    exact ⟨by rw [HX.out]; rfl, B3.out⟩
theorem tkWS (x : Value) (w : World) : (Instr.typeAssert (.iface 54 x) 25 37 true).run Tryd.prog w = .ok (.tuple #[.pointer none, .bool false]) w := by kernel_rfl
theorem tkWP (x : Value) (w : World) : (Instr.typeAssert (.iface 55 x) 25 37 true).run Tryd.prog w = .ok (.tuple #[.pointer none, .bool false]) w := by kernel_rfl
theorem tkWW (x : Value) (w : World) : (Instr.typeAssert (.iface 37 x) 25 37 true).run Tryd.prog w = .ok (.tuple #[x, .bool true]) w := by kernel_rfl
theorem tkWE (x : Value) (w : World) : (Instr.typeAssert (.iface 29 x) 25 37 true).run Tryd.prog w = .ok (.tuple #[.pointer none, .bool false]) w := by kernel_rfl
theorem tkWX (x : Value) (w : World) : (Instr.typeAssert (.iface 65 x) 25 37 true).run Tryd.prog w = .ok (.tuple #[.pointer none, .bool false]) w := by kernel_rfl
theorem tkWN (x : Value) (w : World) : (Instr.typeAssert (.iface 93 x) 25 37 true).run Tryd.prog w = .ok (.tuple #[.pointer none, .bool false]) w := by kernel_rfl
theorem tkW0 (w : World) : (Instr.typeAssert .nilIface 25 37 true).run Tryd.prog w = .ok (.tuple #[.pointer none, .bool false]) w := by kernel_rfl

set_option maxRecDepth 10000 in
set_option maxHeartbeats 1600000 in
theorem takeW (W : World) (M : List Lnk) (b : Value) (hb : Base0 b) (c : Nat) (old : Value) (hc : W.heap[c]? = some (.cells #[old] 37 (0, 0))) : Calls Tryd.prog 45 #[val M b, .pointer (some ⟨c, 0, none⟩)] W fun e w' => e = .returned (.bool (hit 37 (val M b)).isSome) ∧ w'.heap[c]? = some (.cells #[(hit 37 (val M b)).getD old] 37 (0, 0)) ∧ Only (fun k => k = c) W w' := by
  have hn0 := nilAs
  have m0 := cell_obj hc 0 (u := old) rfl
  have mf := free_of_one hc
  have HC := Lib.hid hc
  clear hc
  cases M with
  | nil =>
    rcases hb with (⟨k, rfl⟩ | rfl | ⟨p, rfl⟩) | rfl
    · simp only [show val [] (.iface 29 (.int .i64 k)) = (.iface 29 (.int .i64 k)) from rfl]
      have ht := tkWE
      have hna := noAsE
      go_enter Tryd.func45, Tryd.ntmps45
      go_wp2
      go_ret
      exact ⟨rfl, HC.out, Only.refl _ _⟩
    · simp only [show val [] (.iface 65 (.agg #[])) = (.iface 65 (.agg #[])) from rfl]
      have ht := tkWX
      have hna := noAsX
      go_enter Tryd.func45, Tryd.ntmps45
      go_wp2
      go_ret
      exact ⟨rfl, HC.out, Only.refl _ _⟩
    · simp only [show val [] (.iface 93 (.pointer (some p))) = (.iface 93 (.pointer (some p))) from rfl]
      have ht := tkWN
      have hna := noAsN
      go_enter Tryd.func45, Tryd.ntmps45
      go_wp2
      go_ret
      exact ⟨rfl, HC.out, Only.refl _ _⟩
    · simp only [show val [] .nilIface = .nilIface from rfl]
      have ht := tkW0
      go_enter Tryd.func45, Tryd.ntmps45
      go_wp2
      go_ret
      exact ⟨rfl, HC.out, Only.refl _ _⟩
  | cons l M =>
    cases l with
    | step p q =>
      simp only [val_step]
      have ht := tkWS
      have hna := noAsS
      go_enter Tryd.func45, Tryd.ntmps45
      go_wp2
      go_ret
      exact ⟨rfl, HC.out, Only.refl _ _⟩
    | place p q =>
      simp only [val_place]
      have ht := tkWP
      have hna := noAsP
      go_enter Tryd.func45, Tryd.ntmps45
      go_wp2
      go_ret
      exact ⟨rfl, HC.out, Only.refl _ _⟩
    | which p q =>
      simp only [val_which]
      have ht := tkWW
      have hna := noAsW
      go_enter Tryd.func45, Tryd.ntmps45
      go_wp2
      go_ret
      exact ⟨rfl, one_setCell HC.out, Only.setCell (S := fun k => k = c) (Only.refl _ _) (p := ⟨c, 0, none⟩) rfl _⟩
theorem countW (W : World) (q : Nat) : Calls Tryd.prog 32 #[.pointer (some ⟨q, 0, none⟩)] W fun e w' => e = .returned (.bool true) ∧ W = w' := by
  go_enter Tryd.func32, Tryd.ntmps32
  go_wp2
  go_ret
  exact ⟨rfl, rfl⟩
theorem shpW (M : List Lnk) (b : Value) (hb : Base0 b) : hit 37 (val M b) = none ∨ ∃ q : Nat, hit 37 (val M b) = some (.pointer (some ⟨q, 0, none⟩)) := by
  cases M with
  | nil => rcases hb with (⟨k, rfl⟩ | rfl | ⟨p, rfl⟩) | rfl <;> first | exact .inl rfl | exact .inr ⟨_, rfl⟩
  | cons l M => cases l <;> first | exact .inl rfl | exact .inr ⟨_, rfl⟩
set_option maxHeartbeats 1600000 in
theorem closW (W : World) (M : List Lnk) (b : Value) (hb : Base0 b) (c c2 : Nat) (hcc : c2 ≠ c) (old : Value) (hc : W.heap[c]? = some (.cells #[old] 37 (0, 0))) (hc2 : W.heap[c2]? = some (.cells #[.func (.func 32) #[] #[]] 77 (0, 0))) :
    Calls Tryd.prog 44 #[val M b, .pointer (some ⟨c, 0, none⟩), .pointer (some ⟨c2, 0, none⟩)] W fun e w' => e = .returned (.bool (hit 37 (val M b)).isSome) ∧ w'.heap[c]? = some (.cells #[(hit 37 (val M b)).getD old] 37 (0, 0)) ∧ Only (fun k => k = c) W w' := by
  have HT := Lib.hid (takeW W M b hb c old hc)
  have HC2 := Lib.hid hc2
  have HCC := Lib.hid hcc
  have hsh := shpW M b hb
  clear hc hc2 hcc hb
  rcases hsh with hq | ⟨q, hq⟩
  · rw [hq] at HT ⊢
    simp only [Option.isSome_none, Option.getD_none] at HT ⊢
    clear hq
    obtain ⟨u, hu⟩ : ∃ u, u = val M b := ⟨_, rfl⟩
    rw [← hu] at HT ⊢
    clear hu
    go_enter Tryd.func44, Tryd.ntmps44
    go_wp2_with fail
    refine HT.out.mono ?_
    rintro e w' ⟨rfl, h1, h2⟩
    have H1 := Lib.hid h1
    have H2 := Lib.hid h2
    clear h1 h2
    go_wp2_with fail
    go_ret
    exact ⟨rfl, H1.out, H2.out⟩
  · rw [hq] at HT ⊢
    simp only [Option.isSome_some, Option.getD_some] at HT ⊢
    clear hq
    obtain ⟨u, hu⟩ : ∃ u, u = val M b := ⟨_, rfl⟩
    rw [← hu] at HT ⊢
    clear hu
    go_enter Tryd.func44, Tryd.ntmps44
    go_wp2_with fail
    refine HT.out.mono ?_
    rintro e w' ⟨rfl, h1, h2⟩
    have m0 := cell_obj h1 0 (u := .pointer (some ⟨q, 0, none⟩)) rfl
    have n0 := cell_obj ((h2.block c2 (Array.getElem?_eq_some_iff.1 HC2.out).1 HCC.out).trans HC2.out) 0 (u := .func (.func 32) #[] #[]) rfl
    have H1 := Lib.hid h1
    have H2 := Lib.hid h2
    clear h1 h2
    go_wp2_with fail
    refine (countW w' q).mono ?_
    rintro e w' ⟨rfl, rfl⟩
    go_wp2_with fail
    go_ret
    exact ⟨rfl, H1.out, H2.out⟩
theorem enterCW (args : Array Value) (w : World) : (callFunc 44 args).run Tryd.prog w = .ok (.enter 44 args) w := by kernel_rfl
theorem asgLW (w : World) : (ReflectliteType.relation "AssignableTo" ReflectliteType.assignableTo #[.agg #[hd 105], .iface 110 (.agg #[hd 37])]).run Tryd.prog w = .ok (.bool false) w := by kernel_rfl
theorem shW {L : List Lnk} {b x : Value} (hb : Base b ∨ (b = .nilIface ∧ L = [])) (hx : fnd 37 L b = some x) : ∃ q, x = .pointer q := by
  rcases hb with h | ⟨rfl, rfl⟩
  · obtain ⟨e, rfl⟩ := ok_ptr _ (by decide) (by decide) L b h x hx; exact ⟨_, rfl⟩
  · cases hx
set_option maxHeartbeats 4000000 in
theorem fstW (w : World) (L : List Lnk) (b : Value) (hb : Base b ∨ (b = .nilIface ∧ L = [])) (hg : Glob w) (hc : Ch w L b) (hl : L.length ≤ 131072) :
    Calls Tryd.prog 31 #[val L b, .func (.func 32) #[] #[]] w fun e w' => e = .returned (.tuple #[(fnd 37 L b).getD (.pointer none), .bool (fnd 37 L b).isSome]) ∧ Below w.heap.size w w' := by
  have hb0 : Base0 b := by rcases hb with h | h; exact .inl h; exact .inr h.1
  have b2 := ((Below.refl w.heap.size w).alloc (Nat.le_refl _) (.cells #[.func (.func 32) #[] #[]] 77)).alloc (by simp) (.cells #[.pointer none] 37)
  have hc1 : ((w.alloc (.cells #[.func (.func 32) #[] #[]] 77)).alloc (.cells #[.pointer none] 37)).heap[w.heap.size + 1]? = some (.cells #[.pointer none] 37 (0, 0)) := by
    have := heap_alloc_new (w.alloc (.cells #[.func (.func 32) #[] #[]] 77)) (.cells #[.pointer none] 37)
    simpa using this
  have hc2 : ((w.alloc (.cells #[.func (.func 32) #[] #[]] 77)).alloc (.cells #[.pointer none] 37)).heap[w.heap.size]? = some (.cells #[.func (.func 32) #[] #[]] 77 (0, 0)) := by
    rw [Below.heap_alloc _ _ _ (by simp)]; exact heap_alloc_new w _
  have HB2 := Lib.hid b2
  have HC1 := Lib.hid hc1
  have HC2 := Lib.hid hc2
  have HCH := Lib.hid (hc.kb b2)
  have HGL := Lib.hid (hg.kb b2)
  have HVS := Lib.hid (val_shape hb)
  have HB := Lib.hid hb
  have HB0 := Lib.hid hb0
  have HL := Lib.hid hl
  have hmf : ∀ (fn : Fn) (first cap : Array Value) (w : World), (Instr.makeFunc fn first cap).run Tryd.prog w = .ok (.func fn first cap) w := fun _ _ _ _ => rfl
  have HSH := Lib.hid (fun x (hx : fnd 37 L b = some x) => shW hb hx)
  clear hb hb0 hg hc hl b2 hc1 hc2
  have HCA := Lib.hid (fun W c c2 => chain_any W (val L b) 44 c c2 HVS.out)
  have HAA := Lib.hid (fun W s (hB : Below w.heap.size w W) (hG : Glob W) (hch : Ch W L b) (h1 : W.heap[w.heap.size + 1]? = some (.cells #[.pointer none] 37 (0, 0))) (h2 : W.heap[w.heap.size]? = some (.cells #[.func (.func 32) #[] #[]] 77 (0, 0))) (hs : Srch W s (suit 44 (w.heap.size + 1) w.heap.size) 0) (hsl : w.heap.size ≤ s) =>
    alAs_any (B := w.heap.size) (g := 44) (c := w.heap.size + 1) (c2 := w.heap.size) enterCW (b := b) (PM := PMf 37 77 (w.heap.size + 1) w.heap.size (.func (.func 32) #[] #[]) w L b) (Fin := Finf 37 (w.heap.size + 1) w L b) (Fals := Falsf 37 w L b)
    (PMf_stable (by decide) (by decide) (by decide) (by decide) (by decide) (by decide) w L) (Finf_stable (by decide) (by decide) (by decide) w L) (Falsf_stable w L) (fun M W hp => ⟨hp.2.1, hp.1.size⟩)
    (fun M W hp => vis_first (by decide) (by decide) (by decide) (by decide) w L (Nat.le_succ _) (Nat.ne_of_lt (Nat.lt_succ_self _)) HB0.out (fun M W old h h2 => closW W M b HB0.out _ _ (Nat.ne_of_lt (Nat.lt_succ_self _)) old h h2) M W hp) asgLW tgtW W L HB.out s 0 (w.heap.size + 1) hsl HL.out hs (by have := HL.out; omega) hG ⟨hB, hch, ⟨_, h1⟩, rfl, h2⟩)
  obtain ⟨u, hu⟩ : ∃ u, u = val L b := ⟨_, rfl⟩
  rw [← hu] at HCA HAA ⊢
  clear hu
  go_enter Tryd.func31, Tryd.ntmps31
  go_wp2_with fail
  generalize (w.alloc (.cells #[.func (.func 32) #[] #[]] 77)).alloc (.cells #[.pointer none] 37) = W2 at *
  refine (HCA.out W2 _ _).mono ?_
  rintro e W4 ⟨s, rfl, b4, h4, g4⟩
  have HA4 := Lib.hid (HAA.out W4 s (HB2.out.trans (b4.mono HB2.out.size)) (HGL.out.kb b4) (HCH.out.kb b4) ((b4.block _ (Array.getElem?_eq_some_iff.1 HC1.out).1).trans HC1.out) ((b4.block _ (Array.getElem?_eq_some_iff.1 HC2.out).1).trans HC2.out) h4 (Nat.le_trans HB2.out.size g4))
  clear b4 h4 g4 HCA HAA
  go_wp2_with fail
  refine HA4.out.mono ?_
  rintro e w2 ⟨r, rfl, hr⟩
  cases r with
  | true =>
    obtain ⟨b3, x, hx, h3⟩ : Finf 37 (w.heap.size + 1) w L b w2 := hr
    obtain ⟨q, rfl⟩ := HSH.out x hx
    have m0 := cell_obj h3 0 (u := .pointer q) rfl
    have B3 := Lib.hid b3
    have HX := Lib.hid hx
    clear hx h3 b3
    go_wp2_with fail
    go_ret2
    exact ⟨by rw [HX.out]; rfl, B3.out⟩
  | false =>
    obtain ⟨b3, hx⟩ : Falsf 37 w L b w2 := hr
    have B3 := Lib.hid b3
    have HX := Lib.hid hx
    clear hx b3
    go_wp2_with fail
    go_ret2
    exact ⟨by rw [HX.out]; rfl, B3.out⟩
theorem tkES (x : Value) (w : World) : (Instr.typeAssert (.iface 54 x) 25 29 true).run Tryd.prog w = .ok (.tuple #[.int .i64 0, .bool false]) w := by kernel_rfl
theorem tkEP (x : Value) (w : World) : (Instr.typeAssert (.iface 55 x) 25 29 true).run Tryd.prog w = .ok (.tuple #[.int .i64 0, .bool false]) w := by kernel_rfl
theorem tkEW (x : Value) (w : World) : (Instr.typeAssert (.iface 37 x) 25 29 true).run Tryd.prog w = .ok (.tuple #[.int .i64 0, .bool false]) w := by kernel_rfl
theorem tkEE (x : Value) (w : World) : (Instr.typeAssert (.iface 29 x) 25 29 true).run Tryd.prog w = .ok (.tuple #[x, .bool true]) w := by kernel_rfl
theorem tkEX (x : Value) (w : World) : (Instr.typeAssert (.iface 65 x) 25 29 true).run Tryd.prog w = .ok (.tuple #[.int .i64 0, .bool false]) w := by kernel_rfl
theorem tkEN (x : Value) (w : World) : (Instr.typeAssert (.iface 93 x) 25 29 true).run Tryd.prog w = .ok (.tuple #[.int .i64 0, .bool false]) w := by kernel_rfl
theorem tkE0 (w : World) : (Instr.typeAssert .nilIface 25 29 true).run Tryd.prog w = .ok (.tuple #[.int .i64 0, .bool false]) w := by kernel_rfl

set_option maxRecDepth 10000 in
set_option maxHeartbeats 1600000 in
theorem takeE (W : World) (M : List Lnk) (b : Value) (hb : Base0 b) (c : Nat) (old : Value) (hc : W.heap[c]? = some (.cells #[old] 29 (0, 0))) : Calls Tryd.prog 49 #[val M b, .pointer (some ⟨c, 0, none⟩)] W fun e w' => e = .returned (.bool (hit 29 (val M b)).isSome) ∧ w'.heap[c]? = some (.cells #[(hit 29 (val M b)).getD old] 29 (0, 0)) ∧ Only (fun k => k = c) W w' := by
  have hn0 := nilAs
  have m0 := cell_obj hc 0 (u := old) rfl
  have mf := free_of_one hc
  have HC := Lib.hid hc
  clear hc
  cases M with
  | nil =>
    rcases hb with (⟨k, rfl⟩ | rfl | ⟨p, rfl⟩) | rfl
    · simp only [show val [] (.iface 29 (.int .i64 k)) = (.iface 29 (.int .i64 k)) from rfl]
      have ht := tkEE
      have hna := noAsE
      go_enter Tryd.func49, Tryd.ntmps49
      go_wp2
      go_ret
      exact ⟨rfl, one_setCell HC.out, Only.setCell (S := fun k => k = c) (Only.refl _ _) (p := ⟨c, 0, none⟩) rfl _⟩
    · simp only [show val [] (.iface 65 (.agg #[])) = (.iface 65 (.agg #[])) from rfl]
      have ht := tkEX
      have hna := noAsX
      go_enter Tryd.func49, Tryd.ntmps49
      go_wp2
      go_ret
      exact ⟨rfl, HC.out, Only.refl _ _⟩
    · simp only [show val [] (.iface 93 (.pointer (some p))) = (.iface 93 (.pointer (some p))) from rfl]
      have ht := tkEN
      have hna := noAsN
      go_enter Tryd.func49, Tryd.ntmps49
      go_wp2
      go_ret
      exact ⟨rfl, HC.out, Only.refl _ _⟩
    · simp only [show val [] .nilIface = .nilIface from rfl]
      have ht := tkE0
      go_enter Tryd.func49, Tryd.ntmps49
      go_wp2
      go_ret
      exact ⟨rfl, HC.out, Only.refl _ _⟩
  | cons l M =>
    cases l with
    | step p q =>
      simp only [val_step]
      have ht := tkES
      have hna := noAsS
      go_enter Tryd.func49, Tryd.ntmps49
      go_wp2
      go_ret
      exact ⟨rfl, HC.out, Only.refl _ _⟩
    | place p q =>
      simp only [val_place]
      have ht := tkEP
      have hna := noAsP
      go_enter Tryd.func49, Tryd.ntmps49
      go_wp2
      go_ret
      exact ⟨rfl, HC.out, Only.refl _ _⟩
    | which p q =>
      simp only [val_which]
      have ht := tkEW
      have hna := noAsW
      go_enter Tryd.func49, Tryd.ntmps49
      go_wp2
      go_ret
      exact ⟨rfl, HC.out, Only.refl _ _⟩
theorem countE (W : World) (q : Int) : Calls Tryd.prog 38 #[.int .i64 q] W fun e w' => e = .returned (.bool true) ∧ W = w' := by
  go_enter Tryd.func38, Tryd.ntmps38
  go_wp2
  go_ret
  exact ⟨rfl, rfl⟩
theorem shpE (M : List Lnk) (b : Value) (hb : Base0 b) : hit 29 (val M b) = none ∨ ∃ q : Int, hit 29 (val M b) = some (.int .i64 q) := by
  cases M with
  | nil => rcases hb with (⟨k, rfl⟩ | rfl | ⟨p, rfl⟩) | rfl <;> first | exact .inl rfl | exact .inr ⟨_, rfl⟩
  | cons l M => cases l <;> first | exact .inl rfl | exact .inr ⟨_, rfl⟩
set_option maxHeartbeats 1600000 in
theorem closE (W : World) (M : List Lnk) (b : Value) (hb : Base0 b) (c c2 : Nat) (hcc : c2 ≠ c) (old : Value) (hc : W.heap[c]? = some (.cells #[old] 29 (0, 0))) (hc2 : W.heap[c2]? = some (.cells #[.func (.func 38) #[] #[]] 92 (0, 0))) :
    Calls Tryd.prog 48 #[val M b, .pointer (some ⟨c, 0, none⟩), .pointer (some ⟨c2, 0, none⟩)] W fun e w' => e = .returned (.bool (hit 29 (val M b)).isSome) ∧ w'.heap[c]? = some (.cells #[(hit 29 (val M b)).getD old] 29 (0, 0)) ∧ Only (fun k => k = c) W w' := by
  have HT := Lib.hid (takeE W M b hb c old hc)
  have HC2 := Lib.hid hc2
  have HCC := Lib.hid hcc
  have hsh := shpE M b hb
  clear hc hc2 hcc hb
  rcases hsh with hq | ⟨q, hq⟩
  · rw [hq] at HT ⊢
    simp only [Option.isSome_none, Option.getD_none] at HT ⊢
    clear hq
    obtain ⟨u, hu⟩ : ∃ u, u = val M b := ⟨_, rfl⟩
    rw [← hu] at HT ⊢
    clear hu
    go_enter Tryd.func48, Tryd.ntmps48
    go_wp2_with fail
    refine HT.out.mono ?_
    rintro e w' ⟨rfl, h1, h2⟩
    have H1 := Lib.hid h1
    have H2 := Lib.hid h2
    clear h1 h2
    go_wp2_with fail
    go_ret
    exact ⟨rfl, H1.out, H2.out⟩
  · rw [hq] at HT ⊢
    simp only [Option.isSome_some, Option.getD_some] at HT ⊢
    clear hq
    obtain ⟨u, hu⟩ : ∃ u, u = val M b := ⟨_, rfl⟩
    rw [← hu] at HT ⊢
    clear hu
    go_enter Tryd.func48, Tryd.ntmps48
    go_wp2_with fail
    refine HT.out.mono ?_
    rintro e w' ⟨rfl, h1, h2⟩
    have m0 := cell_obj h1 0 (u := .int .i64 q) rfl
    have n0 := cell_obj ((h2.block c2 (Array.getElem?_eq_some_iff.1 HC2.out).1 HCC.out).trans HC2.out) 0 (u := .func (.func 38) #[] #[]) rfl
    have H1 := Lib.hid h1
    have H2 := Lib.hid h2
    clear h1 h2
    go_wp2_with fail
    refine (countE w' q).mono ?_
    rintro e w' ⟨rfl, rfl⟩
    go_wp2_with fail
    go_ret
    exact ⟨rfl, H1.out, H2.out⟩
theorem enterCE (args : Array Value) (w : World) : (callFunc 48 args).run Tryd.prog w = .ok (.enter 48 args) w := by kernel_rfl
theorem asgLE (w : World) : (ReflectliteType.relation "AssignableTo" ReflectliteType.assignableTo #[.agg #[hd 105], .iface 110 (.agg #[hd 29])]).run Tryd.prog w = .ok (.bool false) w := by kernel_rfl
theorem shE {L : List Lnk} {b x : Value} (hb : Base b ∨ (b = .nilIface ∧ L = [])) (hx : fnd 29 L b = some x) : ∃ q, x = .int .i64 q := by
  rcases hb with h | ⟨rfl, rfl⟩
  · rcases h with ⟨k, rfl⟩ | rfl | ⟨p, rfl⟩
    · rw [fnd_kind] at hx; cases hx; exact ⟨_, rfl⟩
    · rw [fnd_strange] at hx; cases hx
    · rw [fnd_new] at hx; cases hx
  · cases hx
set_option maxHeartbeats 4000000 in
theorem fstE (w : World) (L : List Lnk) (b : Value) (hb : Base b ∨ (b = .nilIface ∧ L = [])) (hg : Glob w) (hc : Ch w L b) (hl : L.length ≤ 131072) :
    Calls Tryd.prog 37 #[val L b, .func (.func 38) #[] #[]] w fun e w' => e = .returned (.tuple #[(fnd 29 L b).getD (.int .i64 0), .bool (fnd 29 L b).isSome]) ∧ Below w.heap.size w w' := by
  have hb0 : Base0 b := by rcases hb with h | h; exact .inl h; exact .inr h.1
  have b2 := ((Below.refl w.heap.size w).alloc (Nat.le_refl _) (.cells #[.func (.func 38) #[] #[]] 92)).alloc (by simp) (.cells #[.int .i64 0] 29)
  have hc1 : ((w.alloc (.cells #[.func (.func 38) #[] #[]] 92)).alloc (.cells #[.int .i64 0] 29)).heap[w.heap.size + 1]? = some (.cells #[.int .i64 0] 29 (0, 0)) := by
    have := heap_alloc_new (w.alloc (.cells #[.func (.func 38) #[] #[]] 92)) (.cells #[.int .i64 0] 29)
    simpa using this
  have hc2 : ((w.alloc (.cells #[.func (.func 38) #[] #[]] 92)).alloc (.cells #[.int .i64 0] 29)).heap[w.heap.size]? = some (.cells #[.func (.func 38) #[] #[]] 92 (0, 0)) := by
    rw [Below.heap_alloc _ _ _ (by simp)]; exact heap_alloc_new w _
  have HB2 := Lib.hid b2
  have HC1 := Lib.hid hc1
  have HC2 := Lib.hid hc2
  have HCH := Lib.hid (hc.kb b2)
  have HGL := Lib.hid (hg.kb b2)
  have HVS := Lib.hid (val_shape hb)
  have HB := Lib.hid hb
  have HB0 := Lib.hid hb0
  have HL := Lib.hid hl
  have hmf : ∀ (fn : Fn) (first cap : Array Value) (w : World), (Instr.makeFunc fn first cap).run Tryd.prog w = .ok (.func fn first cap) w := fun _ _ _ _ => rfl
  have HSH := Lib.hid (fun x (hx : fnd 29 L b = some x) => shE hb hx)
  clear hb hb0 hg hc hl b2 hc1 hc2
  have HCA := Lib.hid (fun W c c2 => chain_any W (val L b) 48 c c2 HVS.out)
  have HAA := Lib.hid (fun W s (hB : Below w.heap.size w W) (hG : Glob W) (hch : Ch W L b) (h1 : W.heap[w.heap.size + 1]? = some (.cells #[.int .i64 0] 29 (0, 0))) (h2 : W.heap[w.heap.size]? = some (.cells #[.func (.func 38) #[] #[]] 92 (0, 0))) (hs : Srch W s (suit 48 (w.heap.size + 1) w.heap.size) 0) (hsl : w.heap.size ≤ s) =>
    alAs_any (B := w.heap.size) (g := 48) (c := w.heap.size + 1) (c2 := w.heap.size) enterCE (b := b) (PM := PMf 29 92 (w.heap.size + 1) w.heap.size (.func (.func 38) #[] #[]) w L b) (Fin := Finf 29 (w.heap.size + 1) w L b) (Fals := Falsf 29 w L b)
    (PMf_stable (by decide) (by decide) (by decide) (by decide) (by decide) (by decide) w L) (Finf_stable (by decide) (by decide) (by decide) w L) (Falsf_stable w L) (fun M W hp => ⟨hp.2.1, hp.1.size⟩)
    (fun M W hp => vis_first (by decide) (by decide) (by decide) (by decide) w L (Nat.le_succ _) (Nat.ne_of_lt (Nat.lt_succ_self _)) HB0.out (fun M W old h h2 => closE W M b HB0.out _ _ (Nat.ne_of_lt (Nat.lt_succ_self _)) old h h2) M W hp) asgLE tgtE W L HB.out s 0 (w.heap.size + 1) hsl HL.out hs (by have := HL.out; omega) hG ⟨hB, hch, ⟨_, h1⟩, rfl, h2⟩)
  obtain ⟨u, hu⟩ : ∃ u, u = val L b := ⟨_, rfl⟩
  rw [← hu] at HCA HAA ⊢
  clear hu
  go_enter Tryd.func37, Tryd.ntmps37
  go_wp2_with fail
  generalize (w.alloc (.cells #[.func (.func 38) #[] #[]] 92)).alloc (.cells #[.int .i64 0] 29) = W2 at *
  refine (HCA.out W2 _ _).mono ?_
  rintro e W4 ⟨s, rfl, b4, h4, g4⟩
  have HA4 := Lib.hid (HAA.out W4 s (HB2.out.trans (b4.mono HB2.out.size)) (HGL.out.kb b4) (HCH.out.kb b4) ((b4.block _ (Array.getElem?_eq_some_iff.1 HC1.out).1).trans HC1.out) ((b4.block _ (Array.getElem?_eq_some_iff.1 HC2.out).1).trans HC2.out) h4 (Nat.le_trans HB2.out.size g4))
  clear b4 h4 g4 HCA HAA
  go_wp2_with fail
  refine HA4.out.mono ?_
  rintro e w2 ⟨r, rfl, hr⟩
  cases r with
  | true =>
    obtain ⟨b3, x, hx, h3⟩ : Finf 29 (w.heap.size + 1) w L b w2 := hr
    obtain ⟨q, rfl⟩ := HSH.out x hx
    have m0 := cell_obj h3 0 (u := .int .i64 q) rfl
    have B3 := Lib.hid b3
    have HX := Lib.hid hx
    clear hx h3 b3
    go_wp2_with fail
    go_ret2
    exact ⟨by rw [HX.out]; rfl, B3.out⟩
  | false =>
    obtain ⟨b3, hx⟩ : Falsf 29 w L b w2 := hr
    have B3 := Lib.hid b3
    have HX := Lib.hid hx
    clear hx b3
    go_wp2_with fail
    go_ret2
    exact ⟨by rw [HX.out]; rfl, B3.out⟩
end Go.Proofs.YtageblggakfbdaaDoor
