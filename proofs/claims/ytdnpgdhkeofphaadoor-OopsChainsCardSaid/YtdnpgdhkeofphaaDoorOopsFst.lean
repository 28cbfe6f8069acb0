/- taken, the visitor of first, and first itself, for the three types that package oops asks for. Condition: errors.errorType holds what its text lays; at most 131072 layers. -/
import Derived.Test.YtdnpgdhkeofphaaDoorOopsAl
namespace Go.Proofs.YtdnpgdhkeofphaaDoor
open Go.RowKit Go.Extern.Stop Go.Stop Go.Extern

/-- The error's own value, if it is of type t. -/
def hit (t : TypeId) : Value → Option Value
  | .iface s x => if s = t then some x else none
  | _ => none
theorem fnd_nil (t : TypeId) (b : Value) (hb : Base0 b) : fnd t [] b = hit t b := by
  rcases hb with (⟨k, rfl⟩ | rfl | ⟨p, rfl⟩) | rfl <;> rfl
theorem fnd_cons (t : TypeId) (l : Lnk) (M : List Lnk) (b : Value) : fnd t (l :: M) b = (match hit t (val (l :: M) b) with | some x => some x | none => fnd t M b) := by
  show (if l.ty = t then _ else _) = _
  by_cases h : l.ty = t
  · rw [if_pos h]; simp only [hit, val, h, if_true]
  · rw [if_neg h]; simp only [hit, val, h, if_false]

theorem Ch.away {W : World} {c : Nat} {old : Value} {T : TypeId} (hTo : T ≠ 59 ∧ T ≠ 62 ∧ T ≠ 41) (hr : W.heap[c]? = some (.cells #[old] T (0, 0))) : ∀ {L : List Lnk} {b : Value}, Ch W L b → ∀ l ∈ L, l.blk ≠ c
  | [], _, _, _, h => by cases h
  | l :: L, b, ⟨h1, _, _, h4⟩, x, hx => by
    rcases List.mem_cons.1 hx with rfl | hx
    · intro e
      rw [e, hr] at h1
      cases x
      · simp only [Lnk.obj, Option.some.injEq, Obj.cells.injEq] at h1; exact hTo.1 h1.2.1
      · simp only [Lnk.obj, Option.some.injEq, Obj.cells.injEq] at h1; exact hTo.2.1 h1.2.1
      · simp only [Lnk.obj, Option.some.injEq, Obj.cells.injEq] at h1; exact hTo.2.2 h1.2.1
    · exact Ch.away hTo hr h4 x hx

section
variable {T : TypeId} {zero : Value} {g : FuncId} {c : Nat} {b : Value}
/-- Before the visitor comes to M: what the chain L holds is what M holds. -/
def PMf (T : TypeId) (c : Nat) (w0 : World) (L : List Lnk) (b : Value) (M : List Lnk) (W : World) : Prop :=
  Below w0.heap.size w0 W ∧ Ch W M b ∧ (∃ old, W.heap[c]? = some (.cells #[old] T (0, 0))) ∧ fnd T M b = fnd T L b
def Finf (T : TypeId) (c : Nat) (w0 : World) (L : List Lnk) (b : Value) (W : World) : Prop := Below w0.heap.size w0 W ∧ ∃ x, fnd T L b = some x ∧ W.heap[c]? = some (.cells #[x] T (0, 0))
def Falsf (T : TypeId) (zero : Value) (c : Nat) (w0 : World) (L : List Lnk) (b : Value) (W : World) : Prop := Below w0.heap.size w0 W ∧ fnd T L b = none ∧ W.heap[c]? = some (.cells #[zero] T (0, 0))
variable (h1 : T ≠ 4) (h2 : T ≠ 127) (h3 : T ≠ 140)
include h1 h2 h3
theorem PMf_stable (w0 : World) (L : List Lnk) (M : List Lnk) : Stable w0.heap.size (PMf T c w0 L b M) := fun _ _ ⟨a1, a2, ⟨old, a3⟩, a4⟩ j =>
  ⟨a1.trans (j.below a1.size), Ch.jk j a2, ⟨old, j.same a3 h1 h2 h3⟩, a4⟩
theorem Finf_stable (w0 : World) (L : List Lnk) : Stable w0.heap.size (Finf T c w0 L b) := fun _ _ ⟨a1, x, a2, a3⟩ j => ⟨a1.trans (j.below a1.size), x, a2, j.same a3 h1 h2 h3⟩
theorem Falsf_stable (w0 : World) (L : List Lnk) : Stable w0.heap.size (Falsf T zero c w0 L b) := fun _ _ ⟨a1, a2, a3⟩ j => ⟨a1.trans (j.below a1.size), a2, j.same a3 h1 h2 h3⟩

omit h3 in
/-- From what the visitor's function does to what the search asks of it. -/
theorem vis_first (h4 : T ≠ 87) (hTo : T ≠ 59 ∧ T ≠ 62 ∧ T ≠ 41) (w0 : World) (L : List Lnk) (hc : w0.heap.size ≤ c) (hb0 : Base0 b)
    (hg : ∀ M W old, W.heap[c]? = some (.cells #[old] T (0, 0)) → Calls Tryd.prog g #[val M b, .pointer (some ⟨c, 0, none⟩)] W fun e w' =>
      e = .returned (.bool (hit T (val M b)).isSome) ∧ w'.heap[c]? = some (.cells #[(hit T (val M b)).getD zero] T (0, 0)) ∧ Only (fun k => k = c) W w') (M : List Lnk) (W : World) (hp : PMf T c w0 L b M W) :
    Calls Tryd.prog g #[val M b, .pointer (some ⟨c, 0, none⟩)] W fun e w' => ∃ r, e = .returned (.bool r) ∧ QM b (PMf T c w0 L b) (Finf T c w0 L b) (Falsf T zero c w0 L b) M r w' ∧ Fr W w' := by
  obtain ⟨p1, p2, ⟨old, p3⟩, p4⟩ := hp
  refine (hg M W old p3).mono ?_
  rintro e w' ⟨rfl, q1, q2⟩
  have hfr : Fr W w' := ⟨q2.size, fun k cs T' fr hk hT => by
    have hkc : k ≠ c := by
      intro e
      subst e
      rw [p3] at hk
      cases hk
      rcases hT with h | h | h
      · exact h1 h
      · exact h2 h
      · exact h4 h
    exact (q2.block k (Array.getElem?_eq_some_iff.1 hk).1 hkc).trans hk⟩
  have hbel : Below w0.heap.size w0 w' := p1.trans (q2.below p1.size fun k hk => hk ▸ hc)
  have hch : Ch w' M b := p2.only q2 (Ch.away hTo p3 p2)
  cases hh : hit T (val M b) with
  | some x =>
    rw [hh] at q1
    refine ⟨true, rfl, ?_, hfr⟩
    have hx : fnd T M b = some x := by
      cases M with
      | nil =>
        rw [fnd_nil T b hb0]; exact hh
      | cons l M => rw [fnd_cons, hh]
    exact ⟨hbel, x, by rw [← p4]; exact hx, q1⟩
  | none =>
    rw [hh] at q1
    refine ⟨false, rfl, ?_, hfr⟩
    cases M with
    | nil =>
      exact ⟨hbel, by rw [← p4, fnd_nil T b hb0]; exact hh, q1⟩
    | cons l M =>
      refine ⟨⟨hbel, hch.2.2.2, ⟨_, q1⟩, ?_⟩, hch⟩
      rw [← p4, fnd_cons, hh]
end
theorem tkPS (x : Value) (w : World) : (Instr.typeAssert (.iface 54 x) 25 55 true).run Tryd.prog w = .ok (.tuple #[.pointer none, .bool false]) w := by kernel_rfl
theorem tkPP (x : Value) (w : World) : (Instr.typeAssert (.iface 55 x) 25 55 true).run Tryd.prog w = .ok (.tuple #[x, .bool true]) w := by kernel_rfl
theorem tkPW (x : Value) (w : World) : (Instr.typeAssert (.iface 37 x) 25 55 true).run Tryd.prog w = .ok (.tuple #[.pointer none, .bool false]) w := by kernel_rfl
theorem tkPE (x : Value) (w : World) : (Instr.typeAssert (.iface 29 x) 25 55 true).run Tryd.prog w = .ok (.tuple #[.pointer none, .bool false]) w := by kernel_rfl
theorem tkPX (x : Value) (w : World) : (Instr.typeAssert (.iface 65 x) 25 55 true).run Tryd.prog w = .ok (.tuple #[.pointer none, .bool false]) w := by kernel_rfl
theorem tkPN (x : Value) (w : World) : (Instr.typeAssert (.iface 98 x) 25 55 true).run Tryd.prog w = .ok (.tuple #[.pointer none, .bool false]) w := by kernel_rfl
theorem tkP0 (w : World) : (Instr.typeAssert .nilIface 25 55 true).run Tryd.prog w = .ok (.tuple #[.pointer none, .bool false]) w := by kernel_rfl

set_option maxRecDepth 10000 in
theorem takenP (W : World) (M : List Lnk) (b : Value) (hb : Base0 b) (S : Nat → Prop) : Calls Tryd.prog 63 #[val M b] W fun e w' => e = .returned (.tuple #[(hit 55 (val M b)).getD (.pointer none), .bool (hit 55 (val M b)).isSome]) ∧ Only S W w' := by
  have hn0 := nilAs
  cases M with
  | nil =>
    rcases hb with (⟨k, rfl⟩ | rfl | ⟨p, rfl⟩) | rfl
    · simp only [show val [] (.iface 29 (.int .i64 k)) = .iface 29 (.int .i64 k) from rfl]
      have ht := tkPE
      have hna := noAsE
      go_enter Tryd.func63, Tryd.ntmps63
      go_wp2
      go_ret2
      exact ⟨rfl, (Only.refl _ _).alloc _⟩
    · simp only [show val [] (.iface 65 (.agg #[])) = .iface 65 (.agg #[]) from rfl]
      have ht := tkPX
      have hna := noAsX
      go_enter Tryd.func63, Tryd.ntmps63
      go_wp2
      go_ret2
      exact ⟨rfl, (Only.refl _ _).alloc _⟩
    · simp only [show val [] (.iface 98 (.pointer (some p))) = .iface 98 (.pointer (some p)) from rfl]
      have ht := tkPN
      have hna := noAsN
      go_enter Tryd.func63, Tryd.ntmps63
      go_wp2
      go_ret2
      exact ⟨rfl, (Only.refl _ _).alloc _⟩
    · simp only [show val [] (.nilIface) = .nilIface from rfl]
      have ht := tkP0
      go_enter Tryd.func63, Tryd.ntmps63
      go_wp2
      go_ret2
      exact ⟨rfl, (Only.refl _ _).alloc _⟩
  | cons l M =>
    cases l with
    | step p q =>
      simp only [val_step]
      have ht := tkPS
      have hna := noAsS
      go_enter Tryd.func63, Tryd.ntmps63
      go_wp2
      go_ret2
      exact ⟨rfl, (Only.refl _ _).alloc _⟩
    | place p q =>
      simp only [val_place]
      have ht := tkPP
      have hna := noAsP
      go_enter Tryd.func63, Tryd.ntmps63
      go_wp2
      go_ret2
      exact ⟨rfl, Only.refl _ _⟩
    | which p q =>
      simp only [val_which]
      have ht := tkPW
      have hna := noAsW
      go_enter Tryd.func63, Tryd.ntmps63
      go_wp2
      go_ret2
      exact ⟨rfl, (Only.refl _ _).alloc _⟩

theorem shpP (M : List Lnk) (b : Value) (hb : Base0 b) : ∃ q, (hit 55 (val M b)).getD (.pointer none) = .pointer q := by
  cases M with
  | nil => rcases hb with (⟨k, rfl⟩ | rfl | ⟨p, rfl⟩) | rfl <;> exact ⟨_, rfl⟩
  | cons l M => cases l <;> exact ⟨_, rfl⟩

set_option maxHeartbeats 1600000 in
theorem closP (W : World) (M : List Lnk) (b : Value) (hb : Base0 b) (c : Nat) (old : Value) (hc : W.heap[c]? = some (.cells #[old] 55 (0, 0))) :
    Calls Tryd.prog 62 #[val M b, .pointer (some ⟨c, 0, none⟩)] W fun e w' => e = .returned (.bool (hit 55 (val M b)).isSome) ∧ w'.heap[c]? = some (.cells #[(hit 55 (val M b)).getD (.pointer none)] 55 (0, 0)) ∧ Only (fun k => k = c) W w' := by
  have HT := Lib.hid (takenP W M b hb (fun _ => False))
  have HC := Lib.hid hc
  clear hc
  obtain ⟨q, hq⟩ := shpP M b hb
  rw [hq] at HT ⊢
  obtain ⟨u, hu⟩ : ∃ u, u = val M b := ⟨_, rfl⟩
  rw [← hu] at HT ⊢
  obtain ⟨z, hz⟩ : ∃ z, z = (hit 55 u).isSome := ⟨_, rfl⟩
  rw [← hz] at HT ⊢
  clear hq hz hu
  go_enter Tryd.func62, Tryd.ntmps62
  go_wp2_with (go_at_call 63; refine HT.out.mono ?_; rintro e w' ⟨rfl, R⟩; have HR := Lib.hid R; have hc2 := (R.block c (Array.getElem?_eq_some_iff.1 HC.out).1 (fun h => h)).trans HC.out; have HC2 := Lib.hid hc2; have m0 := cell_obj hc2 0 (u := old) rfl; have mf := free_of_one hc2; clear R hc2)
  go_ret
  exact ⟨rfl, one_setCell HC2.out, Only.setCell (S := fun k => k = c) (HR.out.mono (fun _ _ h => h.elim)) (p := ⟨c, 0, none⟩) rfl _⟩
theorem enterCP (args : Array Value) (w : World) : (callFunc 62 args).run Tryd.prog w = .ok (.enter 62 args) w := by kernel_rfl
theorem asgLP (w : World) : (ReflectliteType.relation "AssignableTo" ReflectliteType.assignableTo #[.agg #[hd 129], .iface 132 (.agg #[hd 55])]).run Tryd.prog w = .ok (.bool false) w := by kernel_rfl
theorem tkWS (x : Value) (w : World) : (Instr.typeAssert (.iface 54 x) 25 37 true).run Tryd.prog w = .ok (.tuple #[.pointer none, .bool false]) w := by kernel_rfl
theorem tkWP (x : Value) (w : World) : (Instr.typeAssert (.iface 55 x) 25 37 true).run Tryd.prog w = .ok (.tuple #[.pointer none, .bool false]) w := by kernel_rfl
theorem tkWW (x : Value) (w : World) : (Instr.typeAssert (.iface 37 x) 25 37 true).run Tryd.prog w = .ok (.tuple #[x, .bool true]) w := by kernel_rfl
theorem tkWE (x : Value) (w : World) : (Instr.typeAssert (.iface 29 x) 25 37 true).run Tryd.prog w = .ok (.tuple #[.pointer none, .bool false]) w := by kernel_rfl
theorem tkWX (x : Value) (w : World) : (Instr.typeAssert (.iface 65 x) 25 37 true).run Tryd.prog w = .ok (.tuple #[.pointer none, .bool false]) w := by kernel_rfl
theorem tkWN (x : Value) (w : World) : (Instr.typeAssert (.iface 98 x) 25 37 true).run Tryd.prog w = .ok (.tuple #[.pointer none, .bool false]) w := by kernel_rfl
theorem tkW0 (w : World) : (Instr.typeAssert .nilIface 25 37 true).run Tryd.prog w = .ok (.tuple #[.pointer none, .bool false]) w := by kernel_rfl

set_option maxRecDepth 10000 in
theorem takenW (W : World) (M : List Lnk) (b : Value) (hb : Base0 b) (S : Nat → Prop) : Calls Tryd.prog 65 #[val M b] W fun e w' => e = .returned (.tuple #[(hit 37 (val M b)).getD (.pointer none), .bool (hit 37 (val M b)).isSome]) ∧ Only S W w' := by
  have hn0 := nilAs
  cases M with
  | nil =>
    rcases hb with (⟨k, rfl⟩ | rfl | ⟨p, rfl⟩) | rfl
    · simp only [show val [] (.iface 29 (.int .i64 k)) = .iface 29 (.int .i64 k) from rfl]
      have ht := tkWE
      have hna := noAsE
      go_enter Tryd.func65, Tryd.ntmps65
      go_wp2
      go_ret2
      exact ⟨rfl, (Only.refl _ _).alloc _⟩
    · simp only [show val [] (.iface 65 (.agg #[])) = .iface 65 (.agg #[]) from rfl]
      have ht := tkWX
      have hna := noAsX
      go_enter Tryd.func65, Tryd.ntmps65
      go_wp2
      go_ret2
      exact ⟨rfl, (Only.refl _ _).alloc _⟩
    · simp only [show val [] (.iface 98 (.pointer (some p))) = .iface 98 (.pointer (some p)) from rfl]
      have ht := tkWN
      have hna := noAsN
      go_enter Tryd.func65, Tryd.ntmps65
      go_wp2
      go_ret2
      exact ⟨rfl, (Only.refl _ _).alloc _⟩
    · simp only [show val [] (.nilIface) = .nilIface from rfl]
      have ht := tkW0
      go_enter Tryd.func65, Tryd.ntmps65
      go_wp2
      go_ret2
      exact ⟨rfl, (Only.refl _ _).alloc _⟩
  | cons l M =>
    cases l with
    | step p q =>
      simp only [val_step]
      have ht := tkWS
      have hna := noAsS
      go_enter Tryd.func65, Tryd.ntmps65
      go_wp2
      go_ret2
      exact ⟨rfl, (Only.refl _ _).alloc _⟩
    | place p q =>
      simp only [val_place]
      have ht := tkWP
      have hna := noAsP
      go_enter Tryd.func65, Tryd.ntmps65
      go_wp2
      go_ret2
      exact ⟨rfl, (Only.refl _ _).alloc _⟩
    | which p q =>
      simp only [val_which]
      have ht := tkWW
      have hna := noAsW
      go_enter Tryd.func65, Tryd.ntmps65
      go_wp2
      go_ret2
      exact ⟨rfl, Only.refl _ _⟩

theorem shpW (M : List Lnk) (b : Value) (hb : Base0 b) : ∃ q, (hit 37 (val M b)).getD (.pointer none) = .pointer q := by
  cases M with
  | nil => rcases hb with (⟨k, rfl⟩ | rfl | ⟨p, rfl⟩) | rfl <;> exact ⟨_, rfl⟩
  | cons l M => cases l <;> exact ⟨_, rfl⟩

set_option maxHeartbeats 1600000 in
theorem closW (W : World) (M : List Lnk) (b : Value) (hb : Base0 b) (c : Nat) (old : Value) (hc : W.heap[c]? = some (.cells #[old] 37 (0, 0))) :
    Calls Tryd.prog 64 #[val M b, .pointer (some ⟨c, 0, none⟩)] W fun e w' => e = .returned (.bool (hit 37 (val M b)).isSome) ∧ w'.heap[c]? = some (.cells #[(hit 37 (val M b)).getD (.pointer none)] 37 (0, 0)) ∧ Only (fun k => k = c) W w' := by
  have HT := Lib.hid (takenW W M b hb (fun _ => False))
  have HC := Lib.hid hc
  clear hc
  obtain ⟨q, hq⟩ := shpW M b hb
  rw [hq] at HT ⊢
  obtain ⟨u, hu⟩ : ∃ u, u = val M b := ⟨_, rfl⟩
  rw [← hu] at HT ⊢
  obtain ⟨z, hz⟩ : ∃ z, z = (hit 37 u).isSome := ⟨_, rfl⟩
  rw [← hz] at HT ⊢
  clear hq hz hu
  go_enter Tryd.func64, Tryd.ntmps64
  go_wp2_with (go_at_call 65; refine HT.out.mono ?_; rintro e w' ⟨rfl, R⟩; have HR := Lib.hid R; have hc2 := (R.block c (Array.getElem?_eq_some_iff.1 HC.out).1 (fun h => h)).trans HC.out; have HC2 := Lib.hid hc2; have m0 := cell_obj hc2 0 (u := old) rfl; have mf := free_of_one hc2; clear R hc2)
  go_ret
  exact ⟨rfl, one_setCell HC2.out, Only.setCell (S := fun k => k = c) (HR.out.mono (fun _ _ h => h.elim)) (p := ⟨c, 0, none⟩) rfl _⟩
theorem enterCW (args : Array Value) (w : World) : (callFunc 64 args).run Tryd.prog w = .ok (.enter 64 args) w := by kernel_rfl
theorem asgLW (w : World) : (ReflectliteType.relation "AssignableTo" ReflectliteType.assignableTo #[.agg #[hd 129], .iface 132 (.agg #[hd 37])]).run Tryd.prog w = .ok (.bool false) w := by kernel_rfl
theorem tkES (x : Value) (w : World) : (Instr.typeAssert (.iface 54 x) 25 29 true).run Tryd.prog w = .ok (.tuple #[.int .i64 0, .bool false]) w := by kernel_rfl
theorem tkEP (x : Value) (w : World) : (Instr.typeAssert (.iface 55 x) 25 29 true).run Tryd.prog w = .ok (.tuple #[.int .i64 0, .bool false]) w := by kernel_rfl
theorem tkEW (x : Value) (w : World) : (Instr.typeAssert (.iface 37 x) 25 29 true).run Tryd.prog w = .ok (.tuple #[.int .i64 0, .bool false]) w := by kernel_rfl
theorem tkEE (x : Value) (w : World) : (Instr.typeAssert (.iface 29 x) 25 29 true).run Tryd.prog w = .ok (.tuple #[x, .bool true]) w := by kernel_rfl
theorem tkEX (x : Value) (w : World) : (Instr.typeAssert (.iface 65 x) 25 29 true).run Tryd.prog w = .ok (.tuple #[.int .i64 0, .bool false]) w := by kernel_rfl
theorem tkEN (x : Value) (w : World) : (Instr.typeAssert (.iface 98 x) 25 29 true).run Tryd.prog w = .ok (.tuple #[.int .i64 0, .bool false]) w := by kernel_rfl
theorem tkE0 (w : World) : (Instr.typeAssert .nilIface 25 29 true).run Tryd.prog w = .ok (.tuple #[.int .i64 0, .bool false]) w := by kernel_rfl

set_option maxRecDepth 10000 in
theorem takenE (W : World) (M : List Lnk) (b : Value) (hb : Base0 b) (S : Nat → Prop) : Calls Tryd.prog 69 #[val M b] W fun e w' => e = .returned (.tuple #[(hit 29 (val M b)).getD (.int .i64 0), .bool (hit 29 (val M b)).isSome]) ∧ Only S W w' := by
  have hn0 := nilAs
  cases M with
  | nil =>
    rcases hb with (⟨k, rfl⟩ | rfl | ⟨p, rfl⟩) | rfl
    · simp only [show val [] (.iface 29 (.int .i64 k)) = .iface 29 (.int .i64 k) from rfl]
      have ht := tkEE
      have hna := noAsE
      go_enter Tryd.func69, Tryd.ntmps69
      go_wp2
      go_ret2
      exact ⟨rfl, Only.refl _ _⟩
    · simp only [show val [] (.iface 65 (.agg #[])) = .iface 65 (.agg #[]) from rfl]
      have ht := tkEX
      have hna := noAsX
      go_enter Tryd.func69, Tryd.ntmps69
      go_wp2
      go_ret2
      exact ⟨rfl, (Only.refl _ _).alloc _⟩
    · simp only [show val [] (.iface 98 (.pointer (some p))) = .iface 98 (.pointer (some p)) from rfl]
      have ht := tkEN
      have hna := noAsN
      go_enter Tryd.func69, Tryd.ntmps69
      go_wp2
      go_ret2
      exact ⟨rfl, (Only.refl _ _).alloc _⟩
    · simp only [show val [] (.nilIface) = .nilIface from rfl]
      have ht := tkE0
      go_enter Tryd.func69, Tryd.ntmps69
      go_wp2
      go_ret2
      exact ⟨rfl, (Only.refl _ _).alloc _⟩
  | cons l M =>
    cases l with
    | step p q =>
      simp only [val_step]
      have ht := tkES
      have hna := noAsS
      go_enter Tryd.func69, Tryd.ntmps69
      go_wp2
      go_ret2
      exact ⟨rfl, (Only.refl _ _).alloc _⟩
    | place p q =>
      simp only [val_place]
      have ht := tkEP
      have hna := noAsP
      go_enter Tryd.func69, Tryd.ntmps69
      go_wp2
      go_ret2
      exact ⟨rfl, (Only.refl _ _).alloc _⟩
    | which p q =>
      simp only [val_which]
      have ht := tkEW
      have hna := noAsW
      go_enter Tryd.func69, Tryd.ntmps69
      go_wp2
      go_ret2
      exact ⟨rfl, (Only.refl _ _).alloc _⟩

theorem shpE (M : List Lnk) (b : Value) (hb : Base0 b) : ∃ q, (hit 29 (val M b)).getD (.int .i64 0) = .int .i64 q := by
  cases M with
  | nil => rcases hb with (⟨k, rfl⟩ | rfl | ⟨p, rfl⟩) | rfl <;> exact ⟨_, rfl⟩
  | cons l M => cases l <;> exact ⟨_, rfl⟩

set_option maxHeartbeats 1600000 in
theorem closE (W : World) (M : List Lnk) (b : Value) (hb : Base0 b) (c : Nat) (old : Value) (hc : W.heap[c]? = some (.cells #[old] 29 (0, 0))) :
    Calls Tryd.prog 68 #[val M b, .pointer (some ⟨c, 0, none⟩)] W fun e w' => e = .returned (.bool (hit 29 (val M b)).isSome) ∧ w'.heap[c]? = some (.cells #[(hit 29 (val M b)).getD (.int .i64 0)] 29 (0, 0)) ∧ Only (fun k => k = c) W w' := by
  have HT := Lib.hid (takenE W M b hb (fun _ => False))
  have HC := Lib.hid hc
  clear hc
  obtain ⟨q, hq⟩ := shpE M b hb
  rw [hq] at HT ⊢
  obtain ⟨u, hu⟩ : ∃ u, u = val M b := ⟨_, rfl⟩
  rw [← hu] at HT ⊢
  obtain ⟨z, hz⟩ : ∃ z, z = (hit 29 u).isSome := ⟨_, rfl⟩
  rw [← hz] at HT ⊢
  clear hq hz hu
  go_enter Tryd.func68, Tryd.ntmps68
  go_wp2_with (go_at_call 69; refine HT.out.mono ?_; rintro e w' ⟨rfl, R⟩; have HR := Lib.hid R; have hc2 := (R.block c (Array.getElem?_eq_some_iff.1 HC.out).1 (fun h => h)).trans HC.out; have HC2 := Lib.hid hc2; have m0 := cell_obj hc2 0 (u := old) rfl; have mf := free_of_one hc2; clear R hc2)
  go_ret
  exact ⟨rfl, one_setCell HC2.out, Only.setCell (S := fun k => k = c) (HR.out.mono (fun _ _ h => h.elim)) (p := ⟨c, 0, none⟩) rfl _⟩
theorem enterCE (args : Array Value) (w : World) : (callFunc 68 args).run Tryd.prog w = .ok (.enter 68 args) w := by kernel_rfl
theorem asgLE (w : World) : (ReflectliteType.relation "AssignableTo" ReflectliteType.assignableTo #[.agg #[hd 129], .iface 132 (.agg #[hd 29])]).run Tryd.prog w = .ok (.bool false) w := by kernel_rfl

/-- chain: a link around the error, with a search of its own. -/
theorem chain_any (w : World) (u : Value) (g : FuncId) (c : Nat) (hu : (∃ t x, u = .iface t x) ∨ u = .nilIface) : Calls Tryd.prog 34 #[u, suit g c] w fun e w' => e = .returned (lk u 0 w.heap.size) ∧ w' = w.alloc (.cells #[suit g c, .int .i64 134217728] 127) := by
  rcases hu with ⟨t, x, rfl⟩ | rfl
  all_goals
    go_enter Tryd.func34, Tryd.ntmps34
    go_wp2
    go_ret
    exact ⟨rfl, rfl⟩
theorem val_shape {L : List Lnk} {b : Value} (hb : Base b ∨ (b = .nilIface ∧ L = [])) : (∃ t x, val L b = .iface t x) ∨ val L b = .nilIface := by
  rcases hb with h | ⟨rfl, rfl⟩
  · exact .inl (val_iface h L)
  · exact .inr rfl

theorem shP {L : List Lnk} {b x : Value} (hb : Base b ∨ (b = .nilIface ∧ L = [])) (hx : fnd 55 L b = some x) : ∃ q, x = .pointer q := by
  rcases hb with h | ⟨rfl, rfl⟩
  · obtain ⟨e, rfl⟩ := ok_ptr _ (by decide) (by decide) L b h x hx; exact ⟨_, rfl⟩
  · cases hx
set_option maxHeartbeats 4000000 in
theorem fstP (w : World) (L : List Lnk) (b : Value) (hb : Base b ∨ (b = .nilIface ∧ L = [])) (hg : Glob w) (hc : Ch w L b) (hl : L.length ≤ 131072) :
    Calls Tryd.prog 37 #[val L b] w fun e w' => e = .returned (.tuple #[(fnd 55 L b).getD (.pointer none), .bool (fnd 55 L b).isSome]) ∧ Below w.heap.size w w' := by
  have hb0 : Base0 b := by rcases hb with h | h; exact .inl h; exact .inr h.1
  have b1 := (Below.refl w.heap.size w).alloc (Nat.le_refl _) (.cells #[.pointer none] 55)
  have b2 := b1.alloc (by simp) (.cells #[suit 62 w.heap.size, .int .i64 134217728] 127)
  have hc1 : ((w.alloc (.cells #[.pointer none] 55)).alloc (.cells #[suit 62 w.heap.size, .int .i64 134217728] 127)).heap[w.heap.size]? = some (.cells #[.pointer none] 55 (0, 0)) := by
    rw [Below.heap_alloc _ _ _ (by simp)]; exact heap_alloc_new w _
  have hs1 : Srch ((w.alloc (.cells #[.pointer none] 55)).alloc (.cells #[suit 62 w.heap.size, .int .i64 134217728] 127)) (w.heap.size + 1) (suit 62 w.heap.size) 134217728 := by
    have := heap_alloc_new (w.alloc (.cells #[.pointer none] 55)) (.cells #[suit 62 w.heap.size, .int .i64 134217728] 127)
    simpa [Srch] using this
  have HK := Lib.hid (chain_any (w.alloc (.cells #[.pointer none] 55)) (val L b) 62 w.heap.size (val_shape hb))
  have HA := Lib.hid (alAs_any (B := w.heap.size) (g := 62) (c := w.heap.size) enterCP (b := b) (PM := PMf 55 w.heap.size w L b) (Fin := Finf 55 w.heap.size w L b) (Fals := Falsf 55 (.pointer none) w.heap.size w L b)
    (PMf_stable (by decide) (by decide) (by decide) w L) (Finf_stable (by decide) (by decide) (by decide) w L) (Falsf_stable (by decide) (by decide) (by decide) w L) (fun M W hp => ⟨hp.2.1, hp.1.size⟩)
    (fun M W hp => vis_first (by decide) (by decide) (by decide) (by decide) w L (Nat.le_refl _) hb0 (fun M W old h => closP W M b hb0 _ old h) M W hp) asgLP tgtP _ L hb (w.heap.size + 1) 134217728 w.heap.size (Nat.le_succ _) hl hs1 (by omega) (by omega) (hg.kb b2) ⟨b2, hc.kb b2, ⟨_, hc1⟩, rfl⟩)
  have hmf : ∀ (fn : Fn) (first cap : Array Value) (w : World), (Instr.makeFunc fn first cap).run Tryd.prog w = .ok (.func fn first cap) w := fun _ _ _ _ => rfl
  have HSH := Lib.hid (fun x (hx : fnd 55 L b = some x) => shP hb hx)
  clear hb hb0 hg hc hl b1 b2 hc1 hs1
  obtain ⟨u, hu⟩ : ∃ u, u = val L b := ⟨_, rfl⟩
  rw [← hu] at HK HA ⊢
  clear hu
  go_enter Tryd.func37, Tryd.ntmps37
  go_wp2_with fail
  refine HK.out.mono ?_
  rintro e w' ⟨rfl, rfl⟩
  rw [show (w.alloc (.cells #[.pointer none] 55)).heap.size = w.heap.size + 1 from by simp]
  go_wp2_with fail
  refine HA.out.mono ?_
  rintro e w2 ⟨r, rfl, hr⟩
  cases r with
  | true =>
    obtain ⟨b3, x, hx, h3⟩ : Finf 55 w.heap.size w L b w2 := hr
    obtain ⟨q, rfl⟩ := HSH.out x hx
    have m0 := cell_obj h3 0 (u := .pointer q) rfl
    have mf := free_of_one h3
    have H3 := Lib.hid h3
    have B3 := Lib.hid b3
    have HX := Lib.hid hx
    clear hx h3 b3
    go_wp2_with fail
    have z0 := cell_obj (one_setCell (u := .pointer q) H3.out) 0 rfl
    generalize hw3 : w2.setCell ⟨w.heap.size, 0, none⟩ (.pointer q) = w3 at *
    have B4 : Below w.heap.size w w3 := hw3 ▸ B3.out.setCell (p := ⟨w.heap.size, 0, none⟩) (Nat.le_refl _) _
    refine bodyPost_ret (v := .tuple #[.pointer q, .bool true]) ?_ rfl ⟨by rw [HX.out]; rfl, B4⟩
    simp [results, Tryd.results37, go_sem, z0]
  | false =>
    obtain ⟨b3, hx, h3⟩ : Falsf 55 (.pointer none) w.heap.size w L b w2 := hr
    have m0 := cell_obj h3 0 (u := .pointer none) rfl
    have mf := free_of_one h3
    have H3 := Lib.hid h3
    have B3 := Lib.hid b3
    have HX := Lib.hid hx
    clear hx h3 b3
    go_wp2_with fail
    have z0 := cell_obj (one_setCell (u := .pointer none) H3.out) 0 rfl
    generalize hw3 : w2.setCell ⟨w.heap.size, 0, none⟩ (.pointer none) = w3 at *
    have B4 : Below w.heap.size w w3 := hw3 ▸ B3.out.setCell (p := ⟨w.heap.size, 0, none⟩) (Nat.le_refl _) _
    refine bodyPost_ret (v := .tuple #[.pointer none, .bool false]) ?_ rfl ⟨by rw [HX.out]; rfl, B4⟩
    simp [results, Tryd.results37, go_sem, z0]

theorem shW {L : List Lnk} {b x : Value} (hb : Base b ∨ (b = .nilIface ∧ L = [])) (hx : fnd 37 L b = some x) : ∃ q, x = .pointer q := by
  rcases hb with h | ⟨rfl, rfl⟩
  · obtain ⟨e, rfl⟩ := ok_ptr _ (by decide) (by decide) L b h x hx; exact ⟨_, rfl⟩
  · cases hx
set_option maxHeartbeats 4000000 in
theorem fstW (w : World) (L : List Lnk) (b : Value) (hb : Base b ∨ (b = .nilIface ∧ L = [])) (hg : Glob w) (hc : Ch w L b) (hl : L.length ≤ 131072) :
    Calls Tryd.prog 38 #[val L b] w fun e w' => e = .returned (.tuple #[(fnd 37 L b).getD (.pointer none), .bool (fnd 37 L b).isSome]) ∧ Below w.heap.size w w' := by
  have hb0 : Base0 b := by rcases hb with h | h; exact .inl h; exact .inr h.1
  have b1 := (Below.refl w.heap.size w).alloc (Nat.le_refl _) (.cells #[.pointer none] 37)
  have b2 := b1.alloc (by simp) (.cells #[suit 64 w.heap.size, .int .i64 134217728] 127)
  have hc1 : ((w.alloc (.cells #[.pointer none] 37)).alloc (.cells #[suit 64 w.heap.size, .int .i64 134217728] 127)).heap[w.heap.size]? = some (.cells #[.pointer none] 37 (0, 0)) := by
    rw [Below.heap_alloc _ _ _ (by simp)]; exact heap_alloc_new w _
  have hs1 : Srch ((w.alloc (.cells #[.pointer none] 37)).alloc (.cells #[suit 64 w.heap.size, .int .i64 134217728] 127)) (w.heap.size + 1) (suit 64 w.heap.size) 134217728 := by
    have := heap_alloc_new (w.alloc (.cells #[.pointer none] 37)) (.cells #[suit 64 w.heap.size, .int .i64 134217728] 127)
    simpa [Srch] using this
  have HK := Lib.hid (chain_any (w.alloc (.cells #[.pointer none] 37)) (val L b) 64 w.heap.size (val_shape hb))
  have HA := Lib.hid (alAs_any (B := w.heap.size) (g := 64) (c := w.heap.size) enterCW (b := b) (PM := PMf 37 w.heap.size w L b) (Fin := Finf 37 w.heap.size w L b) (Fals := Falsf 37 (.pointer none) w.heap.size w L b)
    (PMf_stable (by decide) (by decide) (by decide) w L) (Finf_stable (by decide) (by decide) (by decide) w L) (Falsf_stable (by decide) (by decide) (by decide) w L) (fun M W hp => ⟨hp.2.1, hp.1.size⟩)
    (fun M W hp => vis_first (by decide) (by decide) (by decide) (by decide) w L (Nat.le_refl _) hb0 (fun M W old h => closW W M b hb0 _ old h) M W hp) asgLW tgtW _ L hb (w.heap.size + 1) 134217728 w.heap.size (Nat.le_succ _) hl hs1 (by omega) (by omega) (hg.kb b2) ⟨b2, hc.kb b2, ⟨_, hc1⟩, rfl⟩)
  have hmf : ∀ (fn : Fn) (first cap : Array Value) (w : World), (Instr.makeFunc fn first cap).run Tryd.prog w = .ok (.func fn first cap) w := fun _ _ _ _ => rfl
  have HSH := Lib.hid (fun x (hx : fnd 37 L b = some x) => shW hb hx)
  clear hb hb0 hg hc hl b1 b2 hc1 hs1
  obtain ⟨u, hu⟩ : ∃ u, u = val L b := ⟨_, rfl⟩
  rw [← hu] at HK HA ⊢
  clear hu
  go_enter Tryd.func38, Tryd.ntmps38
  go_wp2_with fail
  refine HK.out.mono ?_
  rintro e w' ⟨rfl, rfl⟩
  rw [show (w.alloc (.cells #[.pointer none] 37)).heap.size = w.heap.size + 1 from by simp]
  go_wp2_with fail
  refine HA.out.mono ?_
  rintro e w2 ⟨r, rfl, hr⟩
  cases r with
  | true =>
    obtain ⟨b3, x, hx, h3⟩ : Finf 37 w.heap.size w L b w2 := hr
    obtain ⟨q, rfl⟩ := HSH.out x hx
    have m0 := cell_obj h3 0 (u := .pointer q) rfl
    have mf := free_of_one h3
    have H3 := Lib.hid h3
    have B3 := Lib.hid b3
    have HX := Lib.hid hx
    clear hx h3 b3
    go_wp2_with fail
    have z0 := cell_obj (one_setCell (u := .pointer q) H3.out) 0 rfl
    generalize hw3 : w2.setCell ⟨w.heap.size, 0, none⟩ (.pointer q) = w3 at *
    have B4 : Below w.heap.size w w3 := hw3 ▸ B3.out.setCell (p := ⟨w.heap.size, 0, none⟩) (Nat.le_refl _) _
    refine bodyPost_ret (v := .tuple #[.pointer q, .bool true]) ?_ rfl ⟨by rw [HX.out]; rfl, B4⟩
    simp [results, Tryd.results38, go_sem, z0]
  | false =>
    obtain ⟨b3, hx, h3⟩ : Falsf 37 (.pointer none) w.heap.size w L b w2 := hr
    have m0 := cell_obj h3 0 (u := .pointer none) rfl
    have mf := free_of_one h3
    have H3 := Lib.hid h3
    have B3 := Lib.hid b3
    have HX := Lib.hid hx
    clear hx h3 b3
    go_wp2_with fail
    have z0 := cell_obj (one_setCell (u := .pointer none) H3.out) 0 rfl
    generalize hw3 : w2.setCell ⟨w.heap.size, 0, none⟩ (.pointer none) = w3 at *
    have B4 : Below w.heap.size w w3 := hw3 ▸ B3.out.setCell (p := ⟨w.heap.size, 0, none⟩) (Nat.le_refl _) _
    refine bodyPost_ret (v := .tuple #[.pointer none, .bool false]) ?_ rfl ⟨by rw [HX.out]; rfl, B4⟩
    simp [results, Tryd.results38, go_sem, z0]

theorem shE {L : List Lnk} {b x : Value} (hb : Base b ∨ (b = .nilIface ∧ L = [])) (hx : fnd 29 L b = some x) : ∃ q, x = .int .i64 q := by
  rcases hb with h | ⟨rfl, rfl⟩
  · rcases h with ⟨k, rfl⟩ | rfl | ⟨p, rfl⟩
    · rw [fnd_kind] at hx; cases hx; exact ⟨_, rfl⟩
    · rw [fnd_strange] at hx; cases hx
    · rw [fnd_new] at hx; cases hx
  · cases hx
set_option maxHeartbeats 4000000 in
theorem fstE (w : World) (L : List Lnk) (b : Value) (hb : Base b ∨ (b = .nilIface ∧ L = [])) (hg : Glob w) (hc : Ch w L b) (hl : L.length ≤ 131072) :
    Calls Tryd.prog 43 #[val L b] w fun e w' => e = .returned (.tuple #[(fnd 29 L b).getD (.int .i64 0), .bool (fnd 29 L b).isSome]) ∧ Below w.heap.size w w' := by
  have hb0 : Base0 b := by rcases hb with h | h; exact .inl h; exact .inr h.1
  have b1 := (Below.refl w.heap.size w).alloc (Nat.le_refl _) (.cells #[.int .i64 0] 29)
  have b2 := b1.alloc (by simp) (.cells #[suit 68 w.heap.size, .int .i64 134217728] 127)
  have hc1 : ((w.alloc (.cells #[.int .i64 0] 29)).alloc (.cells #[suit 68 w.heap.size, .int .i64 134217728] 127)).heap[w.heap.size]? = some (.cells #[.int .i64 0] 29 (0, 0)) := by
    rw [Below.heap_alloc _ _ _ (by simp)]; exact heap_alloc_new w _
  have hs1 : Srch ((w.alloc (.cells #[.int .i64 0] 29)).alloc (.cells #[suit 68 w.heap.size, .int .i64 134217728] 127)) (w.heap.size + 1) (suit 68 w.heap.size) 134217728 := by
    have := heap_alloc_new (w.alloc (.cells #[.int .i64 0] 29)) (.cells #[suit 68 w.heap.size, .int .i64 134217728] 127)
    simpa [Srch] using this
  have HK := Lib.hid (chain_any (w.alloc (.cells #[.int .i64 0] 29)) (val L b) 68 w.heap.size (val_shape hb))
  have HA := Lib.hid (alAs_any (B := w.heap.size) (g := 68) (c := w.heap.size) enterCE (b := b) (PM := PMf 29 w.heap.size w L b) (Fin := Finf 29 w.heap.size w L b) (Fals := Falsf 29 (.int .i64 0) w.heap.size w L b)
    (PMf_stable (by decide) (by decide) (by decide) w L) (Finf_stable (by decide) (by decide) (by decide) w L) (Falsf_stable (by decide) (by decide) (by decide) w L) (fun M W hp => ⟨hp.2.1, hp.1.size⟩)
    (fun M W hp => vis_first (by decide) (by decide) (by decide) (by decide) w L (Nat.le_refl _) hb0 (fun M W old h => closE W M b hb0 _ old h) M W hp) asgLE tgtE _ L hb (w.heap.size + 1) 134217728 w.heap.size (Nat.le_succ _) hl hs1 (by omega) (by omega) (hg.kb b2) ⟨b2, hc.kb b2, ⟨_, hc1⟩, rfl⟩)
  have hmf : ∀ (fn : Fn) (first cap : Array Value) (w : World), (Instr.makeFunc fn first cap).run Tryd.prog w = .ok (.func fn first cap) w := fun _ _ _ _ => rfl
  have HSH := Lib.hid (fun x (hx : fnd 29 L b = some x) => shE hb hx)
  clear hb hb0 hg hc hl b1 b2 hc1 hs1
  obtain ⟨u, hu⟩ : ∃ u, u = val L b := ⟨_, rfl⟩
  rw [← hu] at HK HA ⊢
  clear hu
  go_enter Tryd.func43, Tryd.ntmps43
  go_wp2_with fail
  refine HK.out.mono ?_
  rintro e w' ⟨rfl, rfl⟩
  rw [show (w.alloc (.cells #[.int .i64 0] 29)).heap.size = w.heap.size + 1 from by simp]
  go_wp2_with fail
  refine HA.out.mono ?_
  rintro e w2 ⟨r, rfl, hr⟩
  cases r with
  | true =>
    obtain ⟨b3, x, hx, h3⟩ : Finf 29 w.heap.size w L b w2 := hr
    obtain ⟨q, rfl⟩ := HSH.out x hx
    have m0 := cell_obj h3 0 (u := .int .i64 q) rfl
    have mf := free_of_one h3
    have H3 := Lib.hid h3
    have B3 := Lib.hid b3
    have HX := Lib.hid hx
    clear hx h3 b3
    go_wp2_with fail
    have z0 := cell_obj (one_setCell (u := .int .i64 q) H3.out) 0 rfl
    generalize hw3 : w2.setCell ⟨w.heap.size, 0, none⟩ (.int .i64 q) = w3 at *
    have B4 : Below w.heap.size w w3 := hw3 ▸ B3.out.setCell (p := ⟨w.heap.size, 0, none⟩) (Nat.le_refl _) _
    refine bodyPost_ret (v := .tuple #[.int .i64 q, .bool true]) ?_ rfl ⟨by rw [HX.out]; rfl, B4⟩
    simp [results, Tryd.results43, go_sem, z0]
  | false =>
    obtain ⟨b3, hx, h3⟩ : Falsf 29 (.int .i64 0) w.heap.size w L b w2 := hr
    have m0 := cell_obj h3 0 (u := .int .i64 0) rfl
    have mf := free_of_one h3
    have H3 := Lib.hid h3
    have B3 := Lib.hid b3
    have HX := Lib.hid hx
    clear hx h3 b3
    go_wp2_with fail
    have z0 := cell_obj (one_setCell (u := .int .i64 0) H3.out) 0 rfl
    generalize hw3 : w2.setCell ⟨w.heap.size, 0, none⟩ (.int .i64 0) = w3 at *
    have B4 : Below w.heap.size w w3 := hw3 ▸ B3.out.setCell (p := ⟨w.heap.size, 0, none⟩) (Nat.le_refl _) _
    refine bodyPost_ret (v := .tuple #[.int .i64 0, .bool false]) ?_ rfl ⟨by rw [HX.out]; rfl, B4⟩
    simp [results, Tryd.results43, go_sem, z0]
end Go.Proofs.YtdnpgdhkeofphaaDoor
