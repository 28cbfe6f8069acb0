/- The generic search over a chain: the first error of a type, or none. Condition: errors.errorType holds what its text lays; at most 131072 layers. -/
import Derived.Test.YtnepdkelnpengaaDoorOopsWalk
import Derived.Test.YtnepdkelnpengaaDoorOopsAs2
import Derived.Conc.MuLone
import Derived.Defers
import Derived.Recover
namespace Go.Proofs.YtnepdkelnpengaaDoor
open Go.RowKit Go.Extern.Stop Go.Stop Go.Extern

theorem enterP (args : Array Value) (w : World) : (callFunc 40 args).run Tryd.prog w = .ok (.enter 40 args) w := by kernel_rfl
theorem noopP (x : Value) (w : World) : Calls Tryd.prog 40 #[x] w fun e w' => e = .returned (.tuple #[]) ∧ w = w' := by
  go_enter Tryd.func40, Tryd.ntmps40
  go_wp2
  go_end0
  exact ⟨rfl, rfl⟩
theorem walkP (b : Value) (hb : Base b) (L : List Lnk) (w : World) (hl : L.length ≤ 131072) (hc : Ch w L b) :
    Calls Tryd.prog 27 #[val L b, .int .i64 0, .func (.func 40) #[] #[]] w fun e w' => e = .returned (.bool true) ∧ w = w' :=
  walk_any b hb 40 #[] (fun M v => w = v ∧ Ch v M b) (fun v => w = v) enterP (fun _ _ h => h.2)
    (fun l M v h => (noopP _ v).mono fun e w' ⟨h1, h2⟩ => ⟨h1, h2 ▸ ⟨h.1, h.2.2.2.2⟩, by rw [h2]⟩)
    (fun v h => (noopP _ v).mono fun e w' ⟨h1, h2⟩ => ⟨h1, h2 ▸ h.1⟩) L w 0 (by omega) (by omega) ⟨rfl, hc⟩
theorem idleP (p q : Addr) (w : World) :
    CallsD Tryd.prog 39 #[.pointer (some p), .pointer (some q)] .returning w fun e u' w' => e = .returned (.tuple #[]) ∧ u' = .returning ∧ w' = w := by
  refine callsD_of_wpS Tryd.func39 rfl fun c₀ cs hu => ?_
  apply wpS_seq
  apply wpS_region
  simp [wpOpsS, go_sem, recoverD, hu, Tryd.ntmps39, Exit.thenS]
  refine wpS_cond (t := false) (by simp [Act.eval, Array.replicate]) ?_
  simp only [Bool.false_eq_true, if_false]
  refine wpS_of_wp (wp_skip ?_)
  cases c₀
  simp_all [bodyPostS, results, Tryd.results39]

set_option maxHeartbeats 4000000 in
theorem firstP (w : World) (L : List Lnk) (b : Value) (hb : Base b) (hg : Glob w) (hc : Ch w L b) (hl : L.length ≤ 131072) (hok : ∀ x, fnd 55 L b = some x → (fun x => ∃ e, x = .pointer (some e)) x) :
    Calls Tryd.prog 30 #[val L b] w fun e w' => e = .returned (.tuple #[(fnd 55 L b).getD (.pointer none), .bool (fnd 55 L b).isSome]) ∧ Below w.heap.size w w' := by
  have hmf : ∀ (fn : Fn) (first cap : Array Value) (w : World), (Instr.makeFunc fn first cap).run Tryd.prog w = .ok (.func fn first cap) w := fun _ _ _ _ => rfl
  have b1 : Below w.heap.size w ((w.alloc (.cells #[.pointer none] 55)).alloc (.cells #[.bool false] 4)) := ((Below.refl _ _).alloc (Nat.le_refl _) _).alloc (by simp) _
  have HW := Lib.hid (walkP b hb L _ hl (Ch.kb b1 hc))
  have ha := as_any tgtP _ L b hb (hg.kb b1) (Ch.kb b1 hc) w.heap.size (.pointer none) (by rw [Below.heap_alloc _ _ _ (by simp)]; exact heap_alloc_last w _) hok
  have hlast : ((w.alloc (.cells #[.pointer none] 55)).alloc (.cells #[.bool false] 4)).heap[w.heap.size + 1]? = some (.cells #[.bool false] 4 (0, 0)) := by
    have := heap_alloc_last (w.alloc (.cells #[.pointer none] 55)) (.cells #[.bool false] 4)
    simpa using this
  have HL := Lib.hid hlast
  have HB1 := Lib.hid b1
  obtain ⟨q, hq⟩ : ∃ q, (fnd 55 L b).getD (.pointer none) = .pointer q := by
    cases hr : fnd 55 L b with
    | none => exact ⟨_, rfl⟩
    | some x => obtain ⟨e, rfl⟩ := hok x hr; exact ⟨_, rfl⟩
  clear hl hc hg hok hlast b1
  unfold AsPost at ha
  rw [hq] at ha
  rw [hq]
  have HA := Lib.hid ha
  clear ha hq
  generalize (fnd 55 L b).isSome = r at *
  go_enter_defers Tryd.func30, Tryd.ntmps30
  go_wp2_with (first
    | (go_at_call 27; refine HW.out.mono ?_; rintro e w' ⟨rfl, rfl⟩)
    | (go_at_call 14; refine HA.out.mono ?_; rintro e w2 ⟨rfl, R1, R2⟩; have HO := Lib.hid R1; have hx := cell_obj R2 0 (u := .pointer q) rfl; have hxf := free_of_one R2
       have R3 := (HO.out.block (w.heap.size + 1) (by simp) (by omega)).trans HL.out; have hy := cell_obj R3 0 (u := .bool false) rfl; have hyf := free_of_one R3; clear R1 R2 R3))
  go_region
  all_goals go_wp2
  all_goals
    refine leaves_cons (f := 39) (args := #[.pointer (some ⟨w.heap.size, 0, none⟩), .pointer (some ⟨w.heap.size + 1, 0, none⟩)]) (by simp) (by simp [go_sem]) ?_
    refine (idleP _ _ _).mono ?_
    rintro e u' w'' ⟨rfl, rfl, rfl⟩
    simp [Leaves, settle, results, Tryd.results30, go_sem, hx, hy]
    have o1 : Only (fun k => w.heap.size ≤ k) w w2 := (Only.of_below HB1.out).trans HO.out (fun _ h => h) (fun x hx h => by omega)
    exact ((((o1.setCell (p := ⟨w.heap.size + 1, 0, none⟩) (Nat.le_succ _) _).setCell (p := ⟨w.heap.size, 0, none⟩) (Nat.le_refl _) _).setCell (p := ⟨w.heap.size + 1, 0, none⟩) (Nat.le_succ _) _).drew).below (Nat.le_refl _) (fun _ h => h)

theorem enterW (args : Array Value) (w : World) : (callFunc 42 args).run Tryd.prog w = .ok (.enter 42 args) w := by kernel_rfl
theorem noopW (x : Value) (w : World) : Calls Tryd.prog 42 #[x] w fun e w' => e = .returned (.tuple #[]) ∧ w = w' := by
  go_enter Tryd.func42, Tryd.ntmps42
  go_wp2
  go_end0
  exact ⟨rfl, rfl⟩
theorem walkW (b : Value) (hb : Base b) (L : List Lnk) (w : World) (hl : L.length ≤ 131072) (hc : Ch w L b) :
    Calls Tryd.prog 27 #[val L b, .int .i64 0, .func (.func 42) #[] #[]] w fun e w' => e = .returned (.bool true) ∧ w = w' :=
  walk_any b hb 42 #[] (fun M v => w = v ∧ Ch v M b) (fun v => w = v) enterW (fun _ _ h => h.2)
    (fun l M v h => (noopW _ v).mono fun e w' ⟨h1, h2⟩ => ⟨h1, h2 ▸ ⟨h.1, h.2.2.2.2⟩, by rw [h2]⟩)
    (fun v h => (noopW _ v).mono fun e w' ⟨h1, h2⟩ => ⟨h1, h2 ▸ h.1⟩) L w 0 (by omega) (by omega) ⟨rfl, hc⟩
theorem idleW (p q : Addr) (w : World) :
    CallsD Tryd.prog 41 #[.pointer (some p), .pointer (some q)] .returning w fun e u' w' => e = .returned (.tuple #[]) ∧ u' = .returning ∧ w' = w := by
  refine callsD_of_wpS Tryd.func41 rfl fun c₀ cs hu => ?_
  apply wpS_seq
  apply wpS_region
  simp [wpOpsS, go_sem, recoverD, hu, Tryd.ntmps41, Exit.thenS]
  refine wpS_cond (t := false) (by simp [Act.eval, Array.replicate]) ?_
  simp only [Bool.false_eq_true, if_false]
  refine wpS_of_wp (wp_skip ?_)
  cases c₀
  simp_all [bodyPostS, results, Tryd.results41]

set_option maxHeartbeats 4000000 in
theorem firstW (w : World) (L : List Lnk) (b : Value) (hb : Base b) (hg : Glob w) (hc : Ch w L b) (hl : L.length ≤ 131072) (hok : ∀ x, fnd 37 L b = some x → (fun x => ∃ e, x = .pointer (some e)) x) :
    Calls Tryd.prog 31 #[val L b] w fun e w' => e = .returned (.tuple #[(fnd 37 L b).getD (.pointer none), .bool (fnd 37 L b).isSome]) ∧ Below w.heap.size w w' := by
  have hmf : ∀ (fn : Fn) (first cap : Array Value) (w : World), (Instr.makeFunc fn first cap).run Tryd.prog w = .ok (.func fn first cap) w := fun _ _ _ _ => rfl
  have b1 : Below w.heap.size w ((w.alloc (.cells #[.pointer none] 37)).alloc (.cells #[.bool false] 4)) := ((Below.refl _ _).alloc (Nat.le_refl _) _).alloc (by simp) _
  have HW := Lib.hid (walkW b hb L _ hl (Ch.kb b1 hc))
  have ha := as_any tgtW _ L b hb (hg.kb b1) (Ch.kb b1 hc) w.heap.size (.pointer none) (by rw [Below.heap_alloc _ _ _ (by simp)]; exact heap_alloc_last w _) hok
  have hlast : ((w.alloc (.cells #[.pointer none] 37)).alloc (.cells #[.bool false] 4)).heap[w.heap.size + 1]? = some (.cells #[.bool false] 4 (0, 0)) := by
    have := heap_alloc_last (w.alloc (.cells #[.pointer none] 37)) (.cells #[.bool false] 4)
    simpa using this
  have HL := Lib.hid hlast
  have HB1 := Lib.hid b1
  obtain ⟨q, hq⟩ : ∃ q, (fnd 37 L b).getD (.pointer none) = .pointer q := by
    cases hr : fnd 37 L b with
    | none => exact ⟨_, rfl⟩
    | some x => obtain ⟨e, rfl⟩ := hok x hr; exact ⟨_, rfl⟩
  clear hl hc hg hok hlast b1
  unfold AsPost at ha
  rw [hq] at ha
  rw [hq]
  have HA := Lib.hid ha
  clear ha hq
  generalize (fnd 37 L b).isSome = r at *
  go_enter_defers Tryd.func31, Tryd.ntmps31
  go_wp2_with (first
    | (go_at_call 27; refine HW.out.mono ?_; rintro e w' ⟨rfl, rfl⟩)
    | (go_at_call 14; refine HA.out.mono ?_; rintro e w2 ⟨rfl, R1, R2⟩; have HO := Lib.hid R1; have hx := cell_obj R2 0 (u := .pointer q) rfl; have hxf := free_of_one R2
       have R3 := (HO.out.block (w.heap.size + 1) (by simp) (by omega)).trans HL.out; have hy := cell_obj R3 0 (u := .bool false) rfl; have hyf := free_of_one R3; clear R1 R2 R3))
  go_region
  all_goals go_wp2
  all_goals
    refine leaves_cons (f := 41) (args := #[.pointer (some ⟨w.heap.size, 0, none⟩), .pointer (some ⟨w.heap.size + 1, 0, none⟩)]) (by simp) (by simp [go_sem]) ?_
    refine (idleW _ _ _).mono ?_
    rintro e u' w'' ⟨rfl, rfl, rfl⟩
    simp [Leaves, settle, results, Tryd.results31, go_sem, hx, hy]
    have o1 : Only (fun k => w.heap.size ≤ k) w w2 := (Only.of_below HB1.out).trans HO.out (fun _ h => h) (fun x hx h => by omega)
    exact ((((o1.setCell (p := ⟨w.heap.size + 1, 0, none⟩) (Nat.le_succ _) _).setCell (p := ⟨w.heap.size, 0, none⟩) (Nat.le_refl _) _).setCell (p := ⟨w.heap.size + 1, 0, none⟩) (Nat.le_succ _) _).drew).below (Nat.le_refl _) (fun _ h => h)

theorem enterE (args : Array Value) (w : World) : (callFunc 46 args).run Tryd.prog w = .ok (.enter 46 args) w := by kernel_rfl
theorem noopE (x : Value) (w : World) : Calls Tryd.prog 46 #[x] w fun e w' => e = .returned (.tuple #[]) ∧ w = w' := by
  go_enter Tryd.func46, Tryd.ntmps46
  go_wp2
  go_end0
  exact ⟨rfl, rfl⟩
theorem walkE (b : Value) (hb : Base b) (L : List Lnk) (w : World) (hl : L.length ≤ 131072) (hc : Ch w L b) :
    Calls Tryd.prog 27 #[val L b, .int .i64 0, .func (.func 46) #[] #[]] w fun e w' => e = .returned (.bool true) ∧ w = w' :=
  walk_any b hb 46 #[] (fun M v => w = v ∧ Ch v M b) (fun v => w = v) enterE (fun _ _ h => h.2)
    (fun l M v h => (noopE _ v).mono fun e w' ⟨h1, h2⟩ => ⟨h1, h2 ▸ ⟨h.1, h.2.2.2.2⟩, by rw [h2]⟩)
    (fun v h => (noopE _ v).mono fun e w' ⟨h1, h2⟩ => ⟨h1, h2 ▸ h.1⟩) L w 0 (by omega) (by omega) ⟨rfl, hc⟩
theorem idleE (p q : Addr) (w : World) :
    CallsD Tryd.prog 45 #[.pointer (some p), .pointer (some q)] .returning w fun e u' w' => e = .returned (.tuple #[]) ∧ u' = .returning ∧ w' = w := by
  refine callsD_of_wpS Tryd.func45 rfl fun c₀ cs hu => ?_
  apply wpS_seq
  apply wpS_region
  simp [wpOpsS, go_sem, recoverD, hu, Tryd.ntmps45, Exit.thenS]
  refine wpS_cond (t := false) (by simp [Act.eval, Array.replicate]) ?_
  simp only [Bool.false_eq_true, if_false]
  refine wpS_of_wp (wp_skip ?_)
  cases c₀
  simp_all [bodyPostS, results, Tryd.results45]

set_option maxHeartbeats 4000000 in
theorem firstE (w : World) (L : List Lnk) (b : Value) (hb : Base b) (hg : Glob w) (hc : Ch w L b) (hl : L.length ≤ 131072) (hok : ∀ x, fnd 29 L b = some x → (fun x => ∃ e, x = .int .i64 e) x) :
    Calls Tryd.prog 36 #[val L b] w fun e w' => e = .returned (.tuple #[(fnd 29 L b).getD (.int .i64 0), .bool (fnd 29 L b).isSome]) ∧ Below w.heap.size w w' := by
  have hmf : ∀ (fn : Fn) (first cap : Array Value) (w : World), (Instr.makeFunc fn first cap).run Tryd.prog w = .ok (.func fn first cap) w := fun _ _ _ _ => rfl
  have b1 : Below w.heap.size w ((w.alloc (.cells #[.int .i64 0] 29)).alloc (.cells #[.bool false] 4)) := ((Below.refl _ _).alloc (Nat.le_refl _) _).alloc (by simp) _
  have HW := Lib.hid (walkE b hb L _ hl (Ch.kb b1 hc))
  have ha := as_any tgtE _ L b hb (hg.kb b1) (Ch.kb b1 hc) w.heap.size (.int .i64 0) (by rw [Below.heap_alloc _ _ _ (by simp)]; exact heap_alloc_last w _) hok
  have hlast : ((w.alloc (.cells #[.int .i64 0] 29)).alloc (.cells #[.bool false] 4)).heap[w.heap.size + 1]? = some (.cells #[.bool false] 4 (0, 0)) := by
    have := heap_alloc_last (w.alloc (.cells #[.int .i64 0] 29)) (.cells #[.bool false] 4)
    simpa using this
  have HL := Lib.hid hlast
  have HB1 := Lib.hid b1
  obtain ⟨q, hq⟩ : ∃ q, (fnd 29 L b).getD (.int .i64 0) = .int .i64 q := by
    cases hr : fnd 29 L b with
    | none => exact ⟨_, rfl⟩
    | some x => obtain ⟨e, rfl⟩ := hok x hr; exact ⟨_, rfl⟩
  clear hl hc hg hok hlast b1
  unfold AsPost at ha
  rw [hq] at ha
  rw [hq]
  have HA := Lib.hid ha
  clear ha hq
  generalize (fnd 29 L b).isSome = r at *
  go_enter_defers Tryd.func36, Tryd.ntmps36
  go_wp2_with (first
    | (go_at_call 27; refine HW.out.mono ?_; rintro e w' ⟨rfl, rfl⟩)
    | (go_at_call 14; refine HA.out.mono ?_; rintro e w2 ⟨rfl, R1, R2⟩; have HO := Lib.hid R1; have hx := cell_obj R2 0 (u := .int .i64 q) rfl; have hxf := free_of_one R2
       have R3 := (HO.out.block (w.heap.size + 1) (by simp) (by omega)).trans HL.out; have hy := cell_obj R3 0 (u := .bool false) rfl; have hyf := free_of_one R3; clear R1 R2 R3))
  go_region
  all_goals go_wp2
  all_goals
    refine leaves_cons (f := 45) (args := #[.pointer (some ⟨w.heap.size, 0, none⟩), .pointer (some ⟨w.heap.size + 1, 0, none⟩)]) (by simp) (by simp [go_sem]) ?_
    refine (idleE _ _ _).mono ?_
    rintro e u' w'' ⟨rfl, rfl, rfl⟩
    simp [Leaves, settle, results, Tryd.results36, go_sem, hx, hy]
    have o1 : Only (fun k => w.heap.size ≤ k) w w2 := (Only.of_below HB1.out).trans HO.out (fun _ h => h) (fun x hx h => by omega)
    exact ((((o1.setCell (p := ⟨w.heap.size + 1, 0, none⟩) (Nat.le_succ _) _).setCell (p := ⟨w.heap.size, 0, none⟩) (Nat.le_refl _) _).setCell (p := ⟨w.heap.size + 1, 0, none⟩) (Nat.le_succ _) _).drew).below (Nat.le_refl _) (fun _ h => h)


theorem kind_nil (w : World) : Calls Tryd.prog 15 #[.nilIface] w fun e w' => e = .returned (.int .i64 0) ∧ w = w' := by
  go_enter Tryd.func15, Tryd.ntmps15
  go_wp2
  go_ret
  exact ⟨rfl, rfl⟩

theorem ok_ptr (t : TypeId) (h1 : t ≠ 29) (h2 : t ≠ 65) : ∀ (L : List Lnk) (b : Value), Base b → ∀ x, fnd t L b = some x → ∃ e, x = .pointer (some e)
  | [], b, hb, x, h => by
    rcases hb with ⟨k, rfl⟩ | rfl | ⟨p, rfl⟩
    · simp [fnd] at h; exact absurd h.1.symm h1
    · simp [fnd] at h; exact absurd h.1.symm h2
    · simp [fnd] at h; exact ⟨p, h.2.symm⟩
  | l :: L, b, hb, x, h => by
    rw [fnd] at h
    by_cases hl : l.ty = t
    · rw [if_pos hl] at h; exact ⟨_, (Option.some.inj h).symm⟩
    · rw [if_neg hl] at h; exact ok_ptr t h1 h2 L b hb x h
theorem ty_ne (l : Lnk) : ¬ l.ty = 29 := by cases l <;> simp [Lnk.ty]
theorem fnd_kind : ∀ (L : List Lnk) (k : Int), fnd 29 L (.iface 29 (.int .i64 k)) = some (.int .i64 k)
  | [], k => by simp [fnd]
  | l :: L, k => by rw [fnd, if_neg (ty_ne l)]; exact fnd_kind L k
theorem fnd_strange : ∀ (L : List Lnk), fnd 29 L (.iface 65 (.agg #[])) = none
  | [] => by simp [fnd]
  | l :: L => by rw [fnd, if_neg (ty_ne l)]; exact fnd_strange L
theorem fnd_new : ∀ (L : List Lnk) (p : Addr), fnd 29 L (.iface 88 (.pointer (some p))) = none
  | [], _ => by simp [fnd]
  | l :: L, p => by rw [fnd, if_neg (ty_ne l)]; exact fnd_new L p

/-- The kind that Kind tells of the error b. -/
def kindOf : Value → Int
  | .iface 29 (.int .i64 k) => k
  | _ => 1

set_option maxHeartbeats 1000000 in
theorem kind_any (w : World) (L : List Lnk) (b : Value) (hb : Base b) (hg : Glob w) (hc : Ch w L b) (hl : L.length ≤ 131072) :
    Calls Tryd.prog 15 #[val L b] w fun e w' => e = .returned (.int .i64 (kindOf b)) ∧ Below w.heap.size w w' := by
  have HF := Lib.hid (firstE w L b hb hg hc hl (by
    intro x hx
    rcases hb with ⟨k, rfl⟩ | rfl | ⟨p, rfl⟩
    · rw [fnd_kind] at hx; exact ⟨k, (Option.some.inj hx).symm⟩
    · rw [fnd_strange] at hx; cases hx
    · rw [fnd_new] at hx; cases hx))
  obtain ⟨sv, xv, hv⟩ := val_iface hb L
  rw [hv] at HF ⊢
  have hnn := nil_iface sv xv
  clear hc hg hl hv
  have hkey : (fnd 29 L b = some (.int .i64 (kindOf b))) ∨ (fnd 29 L b = none ∧ kindOf b = 1) := by
    rcases hb with ⟨k, rfl⟩ | rfl | ⟨p, rfl⟩
    · exact .inl (fnd_kind L k)
    · exact .inr ⟨fnd_strange L, rfl⟩
    · exact .inr ⟨fnd_new L p, rfl⟩
  rcases hkey with h | ⟨h, hk⟩
  · rw [h] at HF
    simp only [Option.getD_some, Option.isSome_some] at HF
    clear h hb
    go_enter Tryd.func15, Tryd.ntmps15
    go_wp2_with (go_at_call 36; refine HF.out.mono ?_; rintro e w' ⟨rfl, R⟩; have HR := Lib.hid R; clear R)
    go_ret
    exact ⟨rfl, HR.out⟩
  · rw [h] at HF
    simp only [Option.getD_none, Option.isSome_none] at HF
    rw [hk]
    clear h hb hk
    go_enter Tryd.func15, Tryd.ntmps15
    go_wp2_with (go_at_call 36; refine HF.out.mono ?_; rintro e w' ⟨rfl, R⟩; have HR := Lib.hid R; clear R)
    go_ret
    exact ⟨rfl, HR.out⟩

end Go.Proofs.YtnepdkelnpengaaDoor
