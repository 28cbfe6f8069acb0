/- The methods of a link: As asks the visitor about the link's error alone. Conditions are on the visitor alone. -/
import Derived.Test.YtageblggakfbdaaDoorOopsQ
import Derived.Deep.RegionWith
namespace Go.Proofs.YtageblggakfbdaaDoor
open Go.RowKit Go.Extern.Stop Go.Stop Go.Extern

/-- Between W and W' nothing has turned but variables of three types from block B on, and new blocks. -/
structure Jk (B : Nat) (W W' : World) : Prop where
  os : W'.os = W.os
  tape : W'.tape = W.tape
  output : W'.output = W.output
  size : W.heap.size ≤ W'.heap.size
  block : ∀ k, k < W.heap.size → W'.heap[k]? = W.heap[k]? ∨ (B ≤ k ∧ ∃ cs T fr, W.heap[k]? = some (.cells cs T fr) ∧ (T = 4 ∨ T = 125 ∨ T = 118))
theorem Jk.refl (B : Nat) (W : World) : Jk B W W := ⟨rfl, rfl, rfl, Nat.le_refl _, fun _ _ => .inl rfl⟩
theorem Jk.trans {B : Nat} {a b c : World} (h : Jk B a b) (k : Jk B b c) : Jk B a c :=
  ⟨k.os.trans h.os, k.tape.trans h.tape, k.output.trans h.output, Nat.le_trans h.size k.size, fun i hi => by
    rcases h.block i hi with h1 | h1
    · rcases k.block i (Nat.lt_of_lt_of_le hi h.size) with k1 | k1
      · exact .inl (k1.trans h1)
      · rw [h1] at k1
        exact .inr k1
    · exact .inr h1⟩
theorem Jk.alloc {B : Nat} {a w : World} (h : Jk B a w) (o : Obj) : Jk B a (w.alloc o) :=
  h.trans ⟨rfl, rfl, rfl, by simp, fun k hk => .inl (Below.heap_alloc _ _ _ hk)⟩
theorem Jk.drew {B : Nat} {a w : World} (h : Jk B a w) : Jk B a w.drew := h.trans ⟨rfl, rfl, rfl, Nat.le_refl _, fun _ _ => .inl rfl⟩
theorem Jk.setCell {B : Nat} {a w : World} {p : Addr} {cs : Array Value} {T : TypeId} {fr : Nat × Nat} (h : Jk B a w) (hB : B ≤ p.block) (hp : w.heap[p.block]? = some (.cells cs T fr)) (hT : T = 4 ∨ T = 125 ∨ T = 118) (u : Value) : Jk B a (w.setCell p u) :=
  h.trans ⟨rfl, rfl, rfl, by simp [World.setCell], fun k _ => by
    by_cases e : k = p.block
    · subst e; exact .inr ⟨hB, cs, T, fr, hp, hT⟩
    · exact .inl (Below.heap_setCell _ _ _ _ e)⟩
theorem Jk.below {B : Nat} {W W' : World} (h : Jk B W W') (hB : B ≤ W.heap.size) : Below B W W' :=
  ⟨h.os, h.tape, h.output, h.size, fun k hk => by
    rcases h.block k (by omega) with h1 | ⟨h1, _⟩
    · exact h1
    · omega⟩
/-- A block of another type is as it was. -/
theorem Jk.same {B : Nat} {W W' : World} (h : Jk B W W') {k : Nat} {cs : Array Value} {T : TypeId} {fr : Nat × Nat} (hk : W.heap[k]? = some (.cells cs T fr)) (h1 : T ≠ 4) (h2 : T ≠ 125) (h3 : T ≠ 118) : W'.heap[k]? = some (.cells cs T fr) := by
  rcases h.block k (Array.getElem?_eq_some_iff.1 hk).1 with e | ⟨_, cs', T', fr', e, hT⟩
  · exact e.trans hk
  · rw [hk] at e
    cases e
    rcases hT with h | h | h
    · exact absurd h h1
    · exact absurd h h2
    · exact absurd h h3
def Stable (B : Nat) (P : World → Prop) : Prop := ∀ W W', P W → Jk B W W' → P W'

/-- What a visitor leaves alone: variables of these types. -/
def Fr (W W' : World) : Prop := W.heap.size ≤ W'.heap.size ∧ ∀ (k : Nat) (cs : Array Value) (T : TypeId) (fr : Nat × Nat), W.heap[k]? = some (Obj.cells cs T fr) → (T = 4 ∨ T = 125 ∨ T = 81) → W'.heap[k]? = some (Obj.cells cs T fr)

/-- Every reflectlite.Value is as it was. -/
def KV (W W' : World) : Prop := ∀ (k : Nat) (cs : Array Value) (fr : Nat × Nat), W.heap[k]? = some (Obj.cells cs 81 fr) → W'.heap[k]? = some (Obj.cells cs 81 fr)
theorem KV.trans {a b c : World} (h : KV a b) (k : KV b c) : KV a c := fun i cs fr hi => k i cs fr (h i cs fr hi)
theorem KV.jk {B : Nat} {a b : World} (h : Jk B a b) : KV a b := fun _ _ _ hi => h.same hi (by decide) (by decide) (by decide)
theorem KV.fr {a b : World} (h : Fr a b) : KV a b := fun k cs fr hi => h.2 k cs _ fr hi (.inr (.inr rfl))

/-- The visitor's value. -/
abbrev suit (g : FuncId) (c c2 : Nat) : Value := .func (.func g) #[] #[.pointer (some ⟨c, 0, none⟩), .pointer (some ⟨c2, 0, none⟩)]

/-- Behind the visitor's call: what it answered lies at block mb. -/
def As1Post (W : World) (Q : Bool → World → Prop) (mb s : Nat) (F : Value) (n : Nat) (w' : World) : Prop := ∃ r, KV W w' ∧ Q r w' ∧ w'.heap[mb]? = some (.cells #[.bool r] 4 (0, 0)) ∧ Srch w' s F n

/-- Behind As of a link: what it answered. -/
def VisPost (W : World) (Q : Bool → World → Prop) (s : Nat) (F : Value) (n : Nat) (e : Ending) (w' : World) : Prop := ∃ r, e = .returned (.bool r) ∧ KV W w' ∧ Q r w' ∧ Srch w' s F n
theorem enterAs1 (args : Array Value) (w : World) : (callFunc 97 args).run Tryd.prog w = .ok (.enter 97 args) w := by kernel_rfl
theorem Jk.srch {B s n : Nat} {W W' : World} {F : Value} (hs : Srch W s F n) (hB : B ≤ s) (o : Only (fun k => k = s) W W') : Jk B W W' :=
  ⟨o.os, o.tape, o.output, o.size, fun k hk => by
    by_cases e : k = s
    · subst e; obtain ⟨mv, hs⟩ := hs; exact .inr ⟨hB, _, _, _, hs, .inr (.inl rfl)⟩
    · exact .inl (o.block k hk e)⟩

section
variable {B : Nat} {g : FuncId} {c c2 : Nat} (hf : ∀ args w, (callFunc g args).run Tryd.prog w = .ok (.enter g args) w)
include hf

set_option maxHeartbeats 1600000 in
theorem as1_any (W : World) (lb mb s : Nat) (v : Value) (d : Int) (n : Nat) (hB : B ≤ mb)
    (hl : W.heap[lb]? = some (.cells #[v, .int .i64 d, .pointer (some ⟨s, 0, none⟩)] 105 (0, 0))) (hm : W.heap[mb]? = some (.cells #[.bool false] 4 (0, 0))) (hs : Srch W s (suit g c c2) n) (Q : Bool → World → Prop) (hQ : ∀ r, Stable B (Q r))
    (hv : ∀ W', Jk B W W' → Calls Tryd.prog g #[v, .pointer (some ⟨c, 0, none⟩), .pointer (some ⟨c2, 0, none⟩)] W' fun e w' => ∃ r, e = .returned (.bool r) ∧ Q r w' ∧ Fr W' w') :
    Calls Tryd.prog 97 #[.pointer (some ⟨lb, 0, none⟩), .pointer (some ⟨mb, 0, none⟩)] W fun e w' => e = .returned (.tuple #[]) ∧ As1Post W Q mb s (suit g c c2) n w' := by
  have c0 := cell_obj hl 0 (u := v) rfl
  have k2 := cell_obj hl 2 (u := .pointer (some ⟨s, 0, none⟩)) rfl
  obtain ⟨mv, hs⟩ := hs
  have s0 := cell_obj hs 0 (u := suit g c c2) rfl
  have HV := Lib.hid (hv W.drew ((Jk.refl B W).drew))
  have HM := Lib.hid (show W.drew.heap[mb]? = some (.cells #[.bool false] 4 (0, 0)) from hm)
  have HS := Lib.hid (show W.drew.heap[s]? = some (.cells #[suit g c c2, .int .i64 n, .int .i64 268435456, mv, .int .i64 0] 125 (0, 0)) from hs)
  have hne : mb ≠ s := by
    intro e
    subst e
    have hs' : W.heap[mb]? = _ := hs
    rw [hm] at hs'
    simp at hs'
  clear hv hl hm hs
  go_enter Tryd.func97, Tryd.ntmps97
  go_region_with (refine HV.out.mono ?_; rintro e w' ⟨r, rfl, hq, hfr⟩; have HQ := Lib.hid hq; have HM2 := Lib.hid (hfr.2 _ _ _ _ HM.out (.inl rfl)); have HS2 := Lib.hid (hfr.2 _ _ _ _ HS.out (.inr (.inl rfl))); have m0 := cell_obj HM2.out 0 (u := .bool false) rfl; have mf := free_of_one HM2.out; have HKV := Lib.hid (((KV.jk (B := B) (Jk.refl B W).drew)).trans (KV.fr hfr)); clear hq hfr)
  all_goals
    go_wp2
    go_end0
    refine ⟨rfl, r, HKV.out.trans (KV.jk ((Jk.refl B _).setCell (p := ⟨mb, 0, none⟩) hB HM2.out (.inl rfl) _)), hQ r _ _ HQ.out ((Jk.refl B _).setCell (p := ⟨mb, 0, none⟩) hB HM2.out (.inl rfl) _), one_setCell HM2.out, ?_⟩
    unfold Srch
    rw [Below.heap_setCell _ _ _ _ (by simp only; omega)]
    exact ⟨mv, HS2.out⟩

set_option maxHeartbeats 1600000 in
theorem linkAs_any (W : World) (s : Nat) (v x : Value) (d : Int) (n : Nat) (hB : B ≤ W.heap.size) (hBs : B ≤ s) (hs : Srch W s (suit g c c2) n) (hn : n + 1 ≤ 268435456) (P : World → Prop) (hP : Stable B P) (hp : P W)
    (Q : Bool → World → Prop) (hQ : ∀ r, Stable B (Q r))
    (hv : ∀ W', P W' → Calls Tryd.prog g #[v, .pointer (some ⟨c, 0, none⟩), .pointer (some ⟨c2, 0, none⟩)] W' fun e w' => ∃ r, e = .returned (.bool r) ∧ Q r w' ∧ Fr W' w') :
    Calls Tryd.prog 93 #[.agg #[v, .int .i64 d, .pointer (some ⟨s, 0, none⟩)], x] W (VisPost W Q s (suit g c c2) (n + 1)) := by
  have hsl := hs.lt
  have j2 := ((Jk.refl B W).alloc (.cells #[v, .int .i64 d, .pointer (some ⟨s, 0, none⟩)] 105)).alloc (.cells #[.bool false] 4)
  have hl2 : ((W.alloc (.cells #[v, .int .i64 d, .pointer (some ⟨s, 0, none⟩)] 105)).alloc (.cells #[.bool false] 4)).heap[W.heap.size]? = some (.cells #[v, .int .i64 d, .pointer (some ⟨s, 0, none⟩)] 105 (0, 0)) := by
    rw [Below.heap_alloc _ _ _ (by simp)]; exact heap_alloc_new W _
  have hm2 : ((W.alloc (.cells #[v, .int .i64 d, .pointer (some ⟨s, 0, none⟩)] 105)).alloc (.cells #[.bool false] 4)).heap[W.heap.size + 1]? = some (.cells #[.bool false] 4 (0, 0)) := by
    have := heap_alloc_new (W.alloc (.cells #[v, .int .i64 d, .pointer (some ⟨s, 0, none⟩)] 105)) (.cells #[.bool false] 4)
    simpa using this
  have hs2 : Srch ((W.alloc (.cells #[v, .int .i64 d, .pointer (some ⟨s, 0, none⟩)] 105)).alloc (.cells #[.bool false] 4)) s (suit g c c2) n := by
    unfold Srch
    rw [Below.heap_alloc _ _ _ (by simp; omega), Below.heap_alloc _ _ _ hsl]; exact hs
  have HJ := Lib.hid j2
  have HL := Lib.hid hl2
  have HM := Lib.hid hm2
  have HS := Lib.hid hs2
  have HP := Lib.hid (hP _ _ hp j2)
  have hmf : ∀ (fn : Fn) (first cap : Array Value) (w : World), (Instr.makeFunc fn first cap).run Tryd.prog w = .ok (.func fn first cap) w := fun _ _ _ _ => rfl
  clear j2 hl2 hm2 hs2 hs hp
  go_enter Tryd.func93, Tryd.ntmps93
  go_wp2_with fail
  generalize (W.alloc (.cells #[v, .int .i64 d, .pointer (some ⟨s, 0, none⟩)] 105)).alloc (.cells #[.bool false] 4) = W2 at *
  have HV := Lib.hid hv
  clear hv
  refine (show Calls Tryd.prog 92 #[.pointer (some ⟨s, 0, none⟩), .int .i64 1] W2 _ from spend_any W2 s (suit g c c2) n 1 hn HS.out).mono ?_
  rintro e W3 ⟨rfl, h3, o3⟩
  have hlb := (Array.getElem?_eq_some_iff.1 HL.out).1
  have hmb := (Array.getElem?_eq_some_iff.1 HM.out).1
  have H3 := Lib.hid (as1_any hf W3 W.heap.size (W.heap.size + 1) s v d (n + 1) (by omega) ((o3.block _ hlb (by omega)).trans HL.out) ((o3.block _ hmb (by omega)).trans HM.out) h3 Q hQ (fun W' j => HV.out W' (hP _ _ (hP _ _ HP.out (Jk.srch HS.out hBs o3)) j)))
  have HK := Lib.hid ((KV.jk HJ.out).trans (KV.jk (Jk.srch HS.out hBs o3)))
  clear h3 o3 hlb hmb
  go_wp2_with fail
  refine (quietly_any _ #[.pointer (some ⟨W.heap.size, 0, none⟩), .pointer (some ⟨W.heap.size + 1, 0, none⟩)] enterAs1 W3 (As1Post W3 Q (W.heap.size + 1) s (suit g c c2) (n + 1)) H3.out).mono ?_
  rintro e W4 ⟨rfl, r, hkv, hq, hm, hs⟩
  have HK4 := Lib.hid (HK.out.trans hkv)
  have m0 := cell_obj hm 0 (u := .bool r) rfl
  have HQ := Lib.hid hq
  have HS4 := Lib.hid hs
  clear hkv hq hm hs H3
  go_wp2_with fail
  go_ret
  exact ⟨r, rfl, HK4.out, HQ.out, HS4.out⟩
end
end Go.Proofs.YtageblggakfbdaaDoor
