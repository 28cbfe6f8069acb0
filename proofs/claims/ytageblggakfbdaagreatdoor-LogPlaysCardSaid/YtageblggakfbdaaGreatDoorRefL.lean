/- The reference's log in memory; Length, Add. Conditions: the numbers are no greater than a program's may be. · The reference's log: Cut, OpenLog. Conditions: the numbers are no greater than a program's may be. -/
import Derived.Test.YtageblggakfbdaaGreatDoorRefN
import Derived.Test.YtageblggakfbdaaGreatDoorLogU
import Derived.Test.YtageblggakfbdaaGreatDoorFrmX
namespace Go.Proofs.YtageblggakfbdaaGreatDoor
open Go.RowKit
open Go.Maps

def xrow (e : Re) : List Value := [.int .i64 e.2.1, e.1]
def xrows : List Re → List Value
  | [] => []
  | e :: r => xrow e ++ xrows r
theorem xrows_length : ∀ E : List Re, (xrows E).length = E.length * 2
  | [] => rfl
  | e :: r => by simp [xrows, xrow, xrows_length r]; omega
theorem xrows_app : ∀ E F : List Re, xrows (E ++ F) = xrows E ++ xrows F
  | [], _ => rfl
  | e :: r, F => by simp [xrows, xrows_app r F]
theorem xrows_one (e : Re) : xrows [e] = xrow e := by simp [xrows]
theorem xrows_at : ∀ (E : List Re) (i c : Nat) (hi : i < E.length), c < 2 → (xrows E)[i * 2 + c]? = (xrow E[i])[c]?
  | e :: r, 0, c, _, hc => by
    rw [xrows, List.getElem?_append_left (by simp [xrow]; omega)]
    simp
  | e :: r, i + 1, c, hi, hc => by
    rw [xrows, List.getElem?_append_right (by simp [xrow]; omega), show (i + 1) * 2 + c - (xrow e).length = i * 2 + c from by simp [xrow]; omega]
    rw [xrows_at r i c (by simpa using hi) hc]
    simp
theorem xrows_take (E : List Re) : ∀ k, xrows (E.take k) = (xrows E).take (k * 2) := by
  induction E with
  | nil => intro k; simp [xrows]
  | cons e r ih =>
    intro k
    cases k with
    | zero => simp [xrows]
    | succ k =>
      have h1 : (xrow e).take ((k + 1) * 2) = xrow e := List.take_of_length_le (by show 2 ≤ _; omega)
      rw [List.take_succ_cons, xrows, xrows, ih, List.take_append, show (xrow e).length = 2 from rfl, h1, show (k + 1) * 2 - 2 = k * 2 from by omega]
theorem xinfo : (Tryz.prog.info? 65).map (fun i => (i.zero, i.size, i.bytes)) = some (some (.agg #[.int .i64 0, .slice none 0 0]), 2, 32) := by kernel_rfl
/-- A row of records that nothing changes. -/
structure XAt (w : World) (A : Nat → Prop) (v : Value) (E : List Re) : Prop where
  row : (v = .slice none 0 0 ∧ E = []) ∨ ∃ g o cap, v = .slice (some ⟨g, o, none⟩) E.length cap ∧ E.length ≤ cap ∧ (E ≠ [] → A g) ∧ ∀ j u, (xrows E)[j]? = some u → w.cell? ⟨g, o + j, none⟩ = some u
  bod : ∀ e ∈ E, BAt w A e.1 e.2.2
theorem xrows_cell {w : World} {A : Nat → Prop} {E : List Re} (h : ∀ e ∈ E, BAt w A e.1 e.2.2) : ∀ u ∈ xrows E, u.oneCell' = true := by
  induction E with
  | nil => intro u hu; cases hu
  | cons e r ih =>
    intro u hu
    rw [xrows] at hu
    rcases List.mem_append.1 hu with hu | hu
    · obtain ⟨p, c, hv⟩ := len_val (h e List.mem_cons_self).seen
      rw [xrow, hv] at hu
      simp only [List.mem_cons, List.not_mem_nil, or_false] at hu
      rcases hu with rfl | rfl <;> rfl
    · exact ih (fun e he => h e (List.mem_cons_of_mem _ he)) u hu
section
variable {w w' : World} {A T : Nat → Prop} {v : Value} {E : List Re}
theorem XAt.kept (h : XAt w A v E) (ho : Only T w w') (hT : ∀ k, A k → ¬ T k) : XAt w' A v E := by
  refine ⟨?_, fun e he => (h.bod e he).kept ho hT⟩
  rcases h.row with h1 | ⟨g, o, cap, h1, hc, hg, hu⟩
  · exact .inl h1
  · refine .inr ⟨g, o, cap, h1, hc, hg, fun j u hj => ?_⟩
    have h1 := hu j u hj
    have h2 := World.block_lt_of_cell? w _ h1
    rw [World.cell?_of_block (w := w) (ho.block _ h2 (hT _ (hg (by rintro rfl; simp [xrows] at hj))))]
    exact h1
theorem XAt.kb (h : XAt w A v E) (hb : Below w.heap.size w w') : XAt w' A v E := XAt.kept (T := fun _ => False) h (Only.of_below hb) (fun _ _ h => h)
theorem XAt.mono {A' : Nat → Prop} (h : XAt w A v E) (hA : ∀ k, A k → A' k) : XAt w A' v E := by
  refine ⟨?_, fun e he => (h.bod e he).mono hA⟩
  rcases h.row with h1 | ⟨g, o, cap, h1, hc, hg, hu⟩
  · exact .inl h1
  · exact .inr ⟨g, o, cap, h1, hc, fun hn => hA g (hg hn), hu⟩
theorem XAt.tight (h : XAt w A v E) : XAt w (fun k => A k ∧ k < w.heap.size) v E := by
  refine ⟨?_, fun e he => (h.bod e he).tight⟩
  rcases h.row with h1 | ⟨g, o, cap, h1, hc, hg, hu⟩
  · exact .inl h1
  · refine .inr ⟨g, o, cap, h1, hc, fun hn => ⟨hg hn, ?_⟩, hu⟩
    obtain ⟨x, r, rfl⟩ := List.exists_cons_of_ne_nil hn
    exact World.block_lt_of_cell? w (⟨g, o + 0, none⟩ : Addr) (hu 0 (.int .i64 x.2.1) rfl)
theorem XAt.slice (h : XAt w A v E) : ∃ p cap, v = .slice p E.length cap ∧ (0 < E.length → ∃ g o, p = some ⟨g, o, none⟩) := by
  rcases h.row with ⟨h1, rfl⟩ | ⟨g, o, cap, h1, _⟩
  · exact ⟨none, 0, h1, fun h => absurd h (Nat.lt_irrefl _)⟩
  · exact ⟨_, _, h1, fun _ => ⟨g, o, rfl⟩⟩
theorem XAt.at {g o n cap : Nat} (h : XAt w A (.slice (some ⟨g, o, none⟩) n cap) E) {i c : Nat} (hi : i < E.length) (hc : c < 2) {u : Value} (hu : (xrow E[i])[c]? = some u) : w.cell? ⟨g, o + i * 2 + c, none⟩ = some u := by
  rcases h.row with ⟨h1, _⟩ | ⟨g', o', cap', h1, _, _, h2⟩
  · cases h1
  · cases h1
    rw [Nat.add_assoc]
    exact h2 _ _ (by rw [xrows_at E i c hi hc]; exact hu)
theorem XAt.own {B : Nat} (h : w.ownsRow B 65 2 v E.length (xrows E)) (hA : ∀ k, B ≤ k → A k) (hb : ∀ e ∈ E, BAt w A e.1 e.2.2) : XAt w A v E := by
  refine ⟨?_, hb⟩
  rcases h.2 with ⟨h1, h2⟩ | ⟨g, cap', cur, h1, _, _, h3, _⟩
  · exact .inl ⟨h1, List.length_eq_zero_iff.1 h2⟩
  · subst h1
    refine .inr ⟨g, 0, cap', rfl, h3, fun _ => hA _ (h.lt g rfl).1, fun j u hj => ?_⟩
    have := h.cells (g := g) rfl j u hj
    rwa [Addr.add_lit] at this
theorem XAt.form {p : Option Addr} {n cap : Nat} (h : XAt w A (.slice p n cap) E) (hn : n = E.length) : n ≤ cap ∧ (p = none → n = 0 ∧ cap = 0) := by
  rcases h.row with ⟨h1, h2⟩ | ⟨g, o, cap', h1, hc, _⟩
  · simp at h1; obtain ⟨rfl, h3, rfl⟩ := h1; exact ⟨by omega, fun _ => ⟨h3, rfl⟩⟩
  · simp at h1; obtain ⟨rfl, h3, rfl⟩ := h1; exact ⟨by omega, fun e => by cases e⟩
theorem XAt.take {p : Option Addr} {n cap : Nat} (h : XAt w A (.slice p n cap) E) (hn : n = E.length) (k : Nat) (hk : k ≤ n) : XAt w A (.slice p k cap) (E.take k) := by
  have hl : (E.take k).length = k := by rw [List.length_take]; omega
  refine ⟨?_, fun e he => h.bod e (List.mem_of_mem_take he)⟩
  rcases h.row with ⟨h1, h2⟩ | ⟨g, o, cap', h1, hc, hg, hu⟩
  · simp at h1
    obtain ⟨rfl, _, rfl⟩ := h1
    subst h2
    obtain rfl : k = 0 := by simp at hn; omega
    exact .inl ⟨rfl, by simp⟩
  · simp at h1
    obtain ⟨rfl, _, rfl⟩ := h1
    refine .inr ⟨g, o, cap, by rw [hl], by omega, fun hne => hg (fun e => hne (by rw [e, List.take_nil])), fun j u hj => ?_⟩
    refine hu j u ?_
    rw [xrows_take, List.getElem?_take] at hj
    split at hj
    · exact hj
    · cases hj
end
/-- The reference's log. -/
structure RL (w : World) (B r l : Nat) (A : Nat → Prop) (nm : Key) (vl : Value) (E : List Re) : Prop where
  obj : w.heap[l]? = some (.cells #[.pointer (some ⟨r, 0, none⟩), stv nm, vl] 63 (0, 0))
  rows : XAt w A vl E
  nl : ¬ A l
  lr : l ≠ r
  bb : B ≤ l
  rok : ∀ e ∈ E, Rok e.2
  small : ends (rcs E) ≤ 1000000000
def RLS (w : World) (B r l : Nat) (A : Nat → Prop) (s : St) (nm : Key) (R : List Rc) : Prop := RS w B r A s ∧ ∃ vl E, RL w B r l A nm vl E ∧ rcs E = R
def RLPost (w : World) (B r l : Nat) (A : Nat → Prop) (s : St) (nm : Key) (R : List Rc) (w' : World) : Prop := ∃ A', RLS w' B r l A' s nm R ∧ Only (fun k => k = r ∨ k = l) w w' ∧ ∀ k, A' k → A k ∨ w.heap.size ≤ k
section
variable {w w' : World} {B r l : Nat} {A T : Nat → Prop} {s s' : St} {nm : Key} {R : List Rc} {vl : Value} {E : List Re}
theorem RL.lt (h : RL w B r l A nm vl E) : l < w.heap.size := (Array.getElem?_eq_some_iff.1 h.obj).1
theorem RL.c0 (h : RL w B r l A nm vl E) : w.cell? ⟨l, 0, none⟩ = some (.pointer (some ⟨r, 0, none⟩)) := by rw [cell_of_row w _ 0 _ _ _ h.obj]; rfl
theorem RL.c1 (h : RL w B r l A nm vl E) : w.cell? ⟨l, 1, none⟩ = some (stv nm) := by rw [cell_of_row w _ 1 _ _ _ h.obj]; rfl
theorem RL.c2 (h : RL w B r l A nm vl E) : w.cell? ⟨l, 2, none⟩ = some vl := by rw [cell_of_row w _ 2 _ _ _ h.obj]; rfl
theorem RL.fz (h : RL w B r l A nm vl E) (i : Nat) : w.frozen? ⟨l, i, none⟩ = false := by
  have h' := h.obj
  simp [World.frozen?, h']
theorem RL.kept (h : RL w B r l A nm vl E) (ho : Only T w w') (hl : ¬ T l) (hT : ∀ k, A k → ¬ T k) : RL w' B r l A nm vl E :=
  { h with obj := (ho.block l h.lt hl).trans h.obj, rows := h.rows.kept ho hT }
theorem RL.kb (h : RL w B r l A nm vl E) (hb : Below w.heap.size w w') : RL w' B r l A nm vl E := h.kept (T := fun _ => False) (Only.of_below hb) (fun h => h) (fun _ _ h => h)
theorem RL.mono {A' : Nat → Prop} (h : RL w B r l A nm vl E) (hA : ∀ k, A k → A' k) (hl : ¬ A' l) : RL w B r l A' nm vl E := { h with rows := h.rows.mono hA, nl := hl }
theorem RLS.kept (h : RLS w B r l A s nm R) (ho : Only T w w') (hr : ¬ T r) (hl : ¬ T l) (hT : ∀ k, A k → ¬ T k) : RLS w' B r l A s nm R := by
  obtain ⟨h1, vl, E, h2, h3⟩ := h
  exact ⟨h1.kept ho hr hT, vl, E, h2.kept ho hl hT, h3⟩
theorem RLS.kb (h : RLS w B r l A s nm R) (hb : Below w.heap.size w w') : RLS w' B r l A s nm R := h.kept (T := fun _ => False) (Only.of_below hb) (fun h => h) (fun h => h) (fun _ _ h => h)
theorem RLPost.same (h : RLS w B r l A s nm R) (hb : Below w.heap.size w w') : RLPost w B r l A s nm R w' := ⟨A, h.kb hb, Only.of_below hb, fun _ h => .inl h⟩
theorem RS.lts {w : World} {B b : Nat} {A : Nat → Prop} {s : St} (h : RS w B b A s) : (∀ k, A k → k < w.heap.size) ∧ b < w.heap.size ∧ (∀ k, A k → B ≤ k) ∧ ¬ A b ∧ B ≤ b := by
  obtain ⟨f, vk, vp, E, Q, h⟩ := h
  exact ⟨h.lt, h.blt, h.ge, h.nb, h.bb⟩
theorem RS.monoA {A' : Nat → Prop} (h : RS w B r A s) (hA : ∀ k, A k → A' k) (hb : ¬ A' r) (hg : ∀ k, A' k → B ≤ k) (hl : ∀ k, A' k → k < w.heap.size) : RS w B r A' s := by
  obtain ⟨f, vk, vp, E, Q, h⟩ := h
  exact ⟨f, vk, vp, E, Q, h.mono hA hb hg hl⟩
/-- A call on the disk alone. -/
theorem RLS.disk (h : RLS w B r l A s nm R) (hp : RPost w B r A s' w') : ∃ A', RLS w' B r l A' s' nm R ∧ Only (fun k => k = r) w w' ∧ (∀ k, A' k → A k ∨ w.heap.size ≤ k) ∧ ∀ k, A k → A' k := by
  obtain ⟨h1, vl, E, h2, h3⟩ := h
  obtain ⟨A', a1, a2, a3⟩ := hp
  have l1 := h1.lts
  have l2 := a1.lts
  refine ⟨fun k => A k ∨ A' k, ⟨a1.monoA (fun k hk => .inr hk) (fun e => e.elim l1.2.2.2.1 l2.2.2.2.1) (fun k hk => hk.elim (l1.2.2.1 k) (l2.2.2.1 k)) (fun k hk => hk.elim (fun e => Nat.lt_of_lt_of_le (l1.1 k e) a2.size) (l2.1 k)), vl, E, ?_, h3⟩, a2, fun k hk => hk.elim .inl (a3 k), fun k hk => .inl hk⟩
  refine (h2.kept a2 (fun e => h2.lr e) (fun k hk e => l1.2.2.2.1 (e ▸ hk))).mono (fun k hk => .inl hk) (fun e => e.elim h2.nl (fun e => ?_))
  rcases a3 l e with e | e
  · exact h2.nl e
  · have := h2.lt; omega
theorem RLS.disk' (h : RLS w B r l A s nm R) (hp : RPost w B r A s' w') : RLPost w B r l A s' nm R w' := by
  obtain ⟨A', h1, h2, h3, _⟩ := h.disk hp
  exact ⟨A', h1, h2.mono (fun _ _ e => .inl e), h3⟩
end
theorem ends_step {E : List Re} {k : Nat} (hk : k < E.length) : ends (rcs (E.take (k + 1))) = ends (rcs (E.take k)) + (9 + E[k].2.2.length) := by
  rw [List.take_succ_eq_append_getElem hk, rcs_app, ends_app]
  simp [rcs, ends]
theorem ends_takes (E : List Re) (k : Nat) : ends (rcs (E.take k)) ≤ ends (rcs E) := by
  conv => rhs; rw [← List.take_append_drop k E]
  rw [rcs_app, ends_app]
  omega
set_option maxRecDepth 20000 in
set_option maxHeartbeats 2000000 in
theorem rlen_to (w : World) (B r l : Nat) (A : Nat → Prop) (nm : Key) (vl : Value) (E : List Re) (h : RL w B r l A nm vl E) : Calls Tryz.prog 32 #[.pointer (some ⟨l, 0, none⟩)] w fun e w' => e = .returned (.int .i64 (ends (rcs E))) ∧ w = w' := by
  obtain ⟨p, cap, rfl, hp⟩ := h.rows.slice
  have H := Lib.hid h
  have HP := Lib.hid hp
  obtain ⟨n, hn⟩ : ∃ n, n = E.length := ⟨_, rfl⟩
  have c2 := h.c2
  have hn6 : n ≤ 111111112 := by have h1 := ends_many (rcs E); have h2 := h.small; rw [rcs_len] at h1; omega
  rw [← hn] at HP c2
  have HN := Lib.hid hn
  clear h hp hn
  go_enter Tryz.func32, Tryz.ntmps32
  go_wp2_with fail
  go_loopw [3, 4] (fun s i wr => ∃ k t : Nat, k ≤ n ∧ i = .int .i64 k ∧ s = .int .i64 t ∧ Hid (t = ends (rcs (E.take k))) ∧ wr = w) (fun _ i _ => n - (intOf i).toNat)
  case atStart => exact ⟨0, 0, Nat.zero_le _, rfl, rfl, Lib.hid rfl, rfl⟩
  case round =>
    obtain ⟨k, t, hk, rfl, rfl, HG, rfl⟩ := hrel
    by_cases hlt : k < n
    · have hkE : k < E.length := by rw [← HN.out]; exact hlt
      obtain ⟨g, o, rfl⟩ := HP.out (by omega)
      have hx := H.out.rows
      rw [← HN.out] at hx
      have e1 := XAt.at hx hkE (c := 1) (by omega) rfl
      obtain ⟨pb, cb, hb⟩ := len_val (hx.bod E[k] (List.getElem_mem hkE)).seen
      rw [hb] at e1
      have hts := ends_step hkE
      have htl := ends_takes E (k + 1)
      rw [hts, ← HG.out] at htl
      rw [← HG.out] at hts
      have HTS := Lib.hid hts
      have h63 := H.out.small
      clear hx hb
      generalize E[k].2.2.length = q at *
      have hq : t + q ≤ 1000000000 := by omega
      obtain ⟨z, hz⟩ : ∃ z : Nat, z = t + (9 + q) := ⟨_, rfl⟩
      have ha63 : IntKind.i64.wrap ((t : Int) + 9) = (t : Int) + 9 := IntWalk.i64_in _ (by omega)
      have hz63 : IntKind.i64.wrap ((t : Int) + 9 + q) = z := by rw [hz]; rw [show (t : Int) + 9 + q = ((t + (9 + q) : Nat) : Int) from by omega]; exact IntWalk.i64_in _ (by omega)
      have hz64 : (t : Int) + 9 + q = (z : Int) := by omega
      have HZ := Lib.hid hz
      have hzb : z ≤ 1000000000 := by omega
      clear hts htl h63 hz hq
      go_wp2
      exact ⟨⟨k + 1, z, by omega, by simp, rfl, Lib.hid (by rw [HTS.out, HZ.out]), trivial⟩, by simp [intOf]; omega⟩
    · have HX : Hid (t = ends (rcs E)) := Lib.hid (by rw [HG.out, List.take_of_length_le (by rw [← HN.out]; omega)])
      go_wp2
      go_ret
      exact ⟨by rw [HX.out]; rfl, rfl⟩
theorem append_recs {ops : Array Oper} {rest : List Oper} {o : Oper} {a : Act} {w : World} {Q : Exit → Act → World → Prop} (hgd : o.guard = none) (s x : Operand)
    (ho : o.op = .call { callee := .builtin .append, args := #[s, x], argTypes := #[61, 61] })
    (base : Nat) (v : Value) (hs : a.eval s = v) (hown : w.ownsRow base 65 2 v 0 []) {A : Nat → Prop} (u : Value) (n : Nat) (R : List Re) (hn : n = R.length) (hx : a.eval x = u) (hse : XAt w A u R)
    (hb : R.length ≤ 200000000) (hbase : base ≤ w.heap.size)
    (h : ∀ v' w', w'.ownsRow base 65 2 v' n (xrows R) → w.grownBy w' v.ownBlock → wpList Tryz.prog ops Q rest (a.put o.dst v') w') :
    wpList Tryz.prog ops Q (o :: rest) a w := by
  subst hn
  obtain ⟨i0, hi0, hz0, hz1, hz2⟩ := info_parts xinfo
  rcases hse.row with ⟨rfl, rfl⟩ | ⟨g, o', cap, rfl, hc, _, hu⟩
  · refine wpList_append_own_none hgd s x _ ho base 65 i0 2 Tryz.underlying61 hi0 v 0 [] hs hown hx ?_
    exact h v w hown ⟨rfl, rfl, rfl, Nat.le_refl _, fun _ _ _ => rfl⟩
  · refine wpList_append_own_at _ hgd s x _ ho base 65 i0 _ 2 32 Tryz.underlying61 hi0 hz0 hz1 hz2 rfl (by omega) v 0 [] hs hown ⟨g, o', none⟩ R.length cap (xrows R) hx (by rw [xrows_length]) (fun j u hj => by rw [Addr.add_lit]; exact hu j u hj) (xrows_cell hse.bod) (by simp [maxLen]; omega) (by omega) hbase ?_
    intro v' w' h1 h2 _ _
    refine h v' w' ?_ h2
    rw [Nat.zero_add, List.nil_append] at h1
    exact h1
theorem radd_end {w w2 X : World} {B r l : Nat} {A A2 : Nat → Prop} {s2 : St} {nm : Key} {vl v9 : Value} {E : List Re} {k : Int} {x : List Int} {u : Value} {n : Nat} (h1 : RLS w2 B r l A2 s2 nm (rcs E)) (h2 : RL w2 B r l A2 nm vl E) (o1 : Only (fun k => k = r) w w2) (hA : ∀ k, A2 k → A k ∨ w.heap.size ≤ k) (hB : Below w2.heap.size w2 X)
    (own : X.ownsRow w2.heap.size 65 2 v9 n (xrows E ++ xrow (u, k, x))) (hn : n = E.length + 1) (hu : BOwn X w2.heap.size u x) (hok : Rok (k, x)) (hsm : ends (rcs E) ≤ 900000000) : RLPost w B r l A s2 nm (rcs E ++ [(k, x)]) (X.setCell ⟨l, 2, none⟩ v9) := by
  have hl1 := h1.1.lts
  have os : Only (fun k => k = l) X (X.setCell ⟨l, 2, none⟩ v9) := (Only.refl _ X).one (S := fun k => k = l) rfl _
  have hsz : (X.setCell ⟨l, 2, none⟩ v9).heap.size = X.heap.size := by simp [World.setCell]
  have hl2 := h2.lt
  have hX := hB.size
  have hw2 := o1.size
  have hx := h2.kb hB
  have hq : XAt X (fun j => A2 j ∨ w2.heap.size ≤ j) v9 (E ++ [(u, k, x)]) := by
    subst hn
    refine XAt.own (B := w2.heap.size) ?_ (fun k hk => .inr hk) (fun e he => ?_)
    · rw [xrows_app, List.length_append, xrows_one]
      exact own
    · rcases List.mem_append.1 he with he | he
      · exact (hx.rows.bod e he).mono (fun k hk => .inl hk)
      · rw [List.mem_singleton.1 he]
        exact BAt.own hu (fun j hj => .inr hj)
  have hnl : ¬ (A2 l ∨ (w2.heap.size ≤ l ∧ l < X.heap.size)) := fun e => e.elim h2.nl (fun e => by omega)
  have hnr : ¬ (A2 r ∨ (w2.heap.size ≤ r ∧ r < X.heap.size)) := fun e => e.elim hl1.2.2.2.1 (fun e => by have := hl1.2.1; omega)
  have hBr := hl1.2.2.2.2
  refine ⟨fun j => A2 j ∨ (w2.heap.size ≤ j ∧ j < X.heap.size), ⟨?_, v9, E ++ [(u, k, x)], ?_, ?_⟩, ?_, ?_⟩
  · refine ((h1.1.kb hB).kept os (fun e => h2.lr e.symm) (fun j hj e => h2.nl (e ▸ hj))).monoA (fun j hj => .inl hj) hnr (fun j hj => hj.elim (hl1.2.2.1 j) (fun e => by have := hl1.2.1; omega)) (fun j hj => by rw [hsz]; exact hj.elim (fun e => by have := hl1.1 j e; omega) (fun e => e.2))
  · refine { obj := ?_, rows := ?_, nl := hnl, lr := h2.lr, bb := h2.bb, rok := ?_, small := ?_ }
    · have := Lib.heap_setCell_same (i := 2) hx.obj v9
      rw [this]; rfl
    · exact ((hq.tight).mono (fun j hj => hj.1.elim .inl (fun e => .inr ⟨e, hj.2⟩))).kept os (fun j hj e => hnl (e ▸ hj))
    · intro e he
      rcases List.mem_append.1 he with he | he
      · exact h2.rok e he
      · rw [List.mem_singleton.1 he]; exact hok
    · rw [rcs_app, ends_app]
      have := hok.2.2.1
      simp only [rcs, List.map_cons, List.map_nil, ends, List.sum_cons, List.sum_nil] at *
      omega
  · rw [rcs_app]; rfl
  · refine ((o1.mono (S := fun k => k = r) (T := fun k => k = r ∨ k = l) (fun _ _ e => .inl e)).trans (Only.of_below hB (S := fun k => k = r ∨ k = l)) (fun _ h => h) (fun _ _ h => h)).trans os (fun _ h => h) (fun _ _ h => .inr h)
  · intro j hj
    exact hj.elim (hA j) (fun e => .inr (by omega))
theorem own_form {w : World} {B e size n : Nat} {v : Value} {xs : List Value} (h : w.ownsRow B e size v n xs) : ∃ p cap, v = .slice p n cap := by
  rcases h.2 with ⟨rfl, h0⟩ | ⟨g, cap, cur, rfl, _⟩
  · exact ⟨none, 0, by rw [h0]⟩
  · exact ⟨_, cap, rfl⟩
theorem grown_beside {w w' : World} {B e size n : Nat} {v : Value} {xs : List Value} {row : Option Nat} (h : w.ownsRow B e size v n xs) (hg : w.grownBy w' row) (hne : ∀ k, v.ownBlock = some k → row ≠ some k) : w'.ownsRow B e size v n xs :=
  own_kept h (S := fun k => row = some k) ⟨hg.os, hg.tape, hg.output, hg.size, fun k hk hn => hg.block k hk (fun e => hn e.symm)⟩ (fun k hk e => hne k hk e)
theorem beside_ne {w : World} {B B' n m : Nat} {u v : Value} {xs ys : List Value} (h : w.ownsRow B 5 1 u n xs) (k : w.ownsRow B' 65 2 v m ys) : ∀ j, u.ownBlock = some j → v.ownBlock ≠ some j := by
  intro j h1 h2
  obtain ⟨c1, h3⟩ := own_type h h1
  obtain ⟨c2, h4⟩ := own_type k h2
  rw [h3] at h4
  simp at h4
def RAdd (w : World) (B r l : Nat) (A : Nat → Prop) (nm : Key) (q : Int × St × List Rc) (e : Ending) (w' : World) : Prop := e = .returned (.int .i64 q.1) ∧ RLPost w B r l A q.2.1 nm q.2.2 w'
set_option maxRecDepth 20000 in
set_option maxHeartbeats 4000000 in
theorem radd_to (w : World) (B r l : Nat) (A : Nat → Prop) (s : St) (nm : Key) (R : List Rc) (k : Int) (v : Value) (x : List Int) (h : RLS w B r l A s nm R) (hg : Good s) (hw : s.works ≤ 900000) (hf : s.fuse < 9223372036854775808) (hn : nm.length ≤ 4611686018427387904) (ok : Okb x) (hx : Seen w v x) (hxo : ∀ j, v.ownBlock = some j → j ≠ r) (hxl : x.length ≤ 140737488351232) (hR : ends R ≤ 900000000) :
    Calls Tryz.prog 36 #[.pointer (some ⟨l, 0, none⟩), .int .i64 k, v] w (RAdd w B r l A nm (addS s nm R k x)) := by
  obtain ⟨a, cap, rfl⟩ := len_val hx
  have HS : Hid (∀ w', Below w.heap.size w w' → RLPost w B r l A s nm R w') := Lib.hid (fun w' hb => RLPost.same h hb)
  unfold RAdd
  by_cases hb : k < 1 ∨ 255 < k ∨ 1048576 < x.length
  · have HA : Hid (addS s nm R k x = (1, s, R)) := Lib.hid (by unfold addS; rw [if_pos hb])
    clear h hx hg
    by_cases hb1 : k < 1
    · clear hb
      go_enter Tryz.func36, Tryz.ntmps36
      go_wp2_with fail
      go_ret
      exact ⟨by rw [HA.out]; rfl, by rw [HA.out]; exact HS.out _ (Below.refl _ _)⟩
    · by_cases hb2 : 255 < k
      · clear hb
        go_enter Tryz.func36, Tryz.ntmps36
        go_wp2_with fail
        go_ret
        exact ⟨by rw [HA.out]; rfl, by rw [HA.out]; exact HS.out _ (Below.refl _ _)⟩
      · have hb3 : (1048576 : Int) < x.length := by omega
        clear hb
        go_enter Tryz.func36, Tryz.ntmps36
        go_wp2_with fail
        go_ret
        exact ⟨by rw [HA.out]; rfl, by rw [HA.out]; exact HS.out _ (Below.refl _ _)⟩
  have hk1 : ¬ k < 1 := by omega
  have hk2 : ¬ 255 < k := by omega
  have hx1 : ¬ (1048576 : Int) < x.length := by omega
  have HRK : Hid (Rok (k, x)) := Lib.hid ⟨by omega, by omega, by show x.length ≤ _; omega, ok⟩
  have HAD : Hid (addS s nm R k x = if (s.append nm (frm k x)).1 = 0 then (0, (s.append nm (frm k x)).2, R ++ [(k, x)]) else ((s.append nm (frm k x)).1, (s.append nm (frm k x)).2, R)) := Lib.hid (by unfold addS; rw [if_neg hb])
  have HXF := Lib.hid (fun W (hW : Below w.heap.size w W) => xframe_any W k _ x (by omega) (by omega) ok (by omega) (hx.kb hW))
  have HX := Lib.hid hx
  have HXO := Lib.hid hxo
  have H := Lib.hid h
  have HG := Lib.hid hg
  have HW := Lib.hid hw
  have HF := Lib.hid hf
  have HRR := Lib.hid hR
  obtain ⟨hrs, vl, E, hrl, hre⟩ := h
  have HRL := Lib.hid hrl
  have HRE := Lib.hid hre
  have c0 := hrl.c0
  have c1 := hrl.c1
  clear hb hx hxo hg hw hf hR hrs hrl hre
  go_enter Tryz.func36, Tryz.ntmps36
  go_wp2_with fail
  try simp only [List.append]
  refine wp_region_noPanic ?_
  refine wp_region_held_drew (S := (fun W => W.cell? ⟨l, 0, none⟩ = some (.pointer (some ⟨r, 0, none⟩)) ∧ W.cell? ⟨l, 1, none⟩ = some (stv nm))) (by kernel_rfl) ⟨c0, c1⟩ (fun hHeld => ?_)
  refine wpAnyH_take (i := 0) (v := ?_) (by simp only [List.getElem?_toArray, List.getElem?_cons_zero]; rfl) (by kernel_rfl) (by kernel_rfl) (by kernel_rfl) (fun _ _ _ h => h) (Or.inl ⟨by rfl, ?_⟩) (by assumption) ?_
  rotate_left
  · intro w hSw
    try dsimp only at hSw
    go_simp
    try with_reducible rfl
  try simp only [Act.put, List.setIfInBounds_toArray, List.set_cons_zero, List.set_cons_succ]
  refine wpAnyH_take (i := 1) (v := ?_) (by simp only [List.getElem?_toArray, List.getElem?_cons_succ, List.getElem?_cons_zero]; rfl) (by kernel_rfl) (by kernel_rfl) (by kernel_rfl) (fun _ _ _ h => h) (Or.inl ⟨by rfl, ?_⟩) (by assumption) ?_
  rotate_left
  · intro w hSw
    try dsimp only at hSw
    go_simp
    try with_reducible rfl
  try simp only [Act.put, List.setIfInBounds_toArray, List.set_cons_zero, List.set_cons_succ]
  refine wpAnyH_take (i := 2) (v := ?_) (by simp only [List.getElem?_toArray, List.getElem?_cons_succ, List.getElem?_cons_zero]; rfl) (by kernel_rfl) (by kernel_rfl) (by kernel_rfl) (fun _ _ _ h => h) (Or.inl ⟨by rfl, ?_⟩) (by assumption) ?_
  rotate_left
  · intro w hSw
    try dsimp only at hSw
    go_simp
    try with_reducible rfl
  try simp only [Act.put, List.setIfInBounds_toArray, List.set_cons_zero, List.set_cons_succ]
  refine wpAnyH_take (i := 3) (v := ?_) (by simp only [List.getElem?_toArray, List.getElem?_cons_succ, List.getElem?_cons_zero]; rfl) (by kernel_rfl) (by kernel_rfl) (by kernel_rfl) (fun _ _ _ h => h) (Or.inl ⟨by rfl, ?_⟩) (by assumption) ?_
  rotate_left
  · intro w hSw
    try dsimp only at hSw
    go_simp
    try with_reducible rfl
  try simp only [Act.put, List.setIfInBounds_toArray, List.set_cons_zero, List.set_cons_succ]
  refine wpAnyH_take (i := 4) (v := ?_) (by simp only [List.getElem?_toArray, List.getElem?_cons_succ, List.getElem?_cons_zero]; rfl) (by kernel_rfl) (by kernel_rfl) (by kernel_rfl) (fun _ _ _ h => h) (Or.inl ⟨by rfl, ?_⟩) (by assumption) ?_
  rotate_left
  · intro w hSw
    try dsimp only at hSw
    go_simp
    try with_reducible rfl
  try simp only [Act.put, List.setIfInBounds_toArray, List.set_cons_zero, List.set_cons_succ]
  refine wpAnyH_take (i := 5) (v := ?_) (by simp only [List.getElem?_toArray, List.getElem?_cons_succ, List.getElem?_cons_zero]; rfl) (by kernel_rfl) (by kernel_rfl) (by kernel_rfl) (fun _ _ _ h => h) (Or.inl ⟨by rfl, ?_⟩) (by assumption) ?_
  rotate_left
  · intro w hSw
    try dsimp only at hSw
    go_simp
    try with_reducible rfl
  try simp only [Act.put, List.setIfInBounds_toArray, List.set_cons_zero, List.set_cons_succ]
  refine wpAnyH_take (i := 6) (v := ?_) (by simp only [List.getElem?_toArray, List.getElem?_cons_succ, List.getElem?_cons_zero]; rfl) (by kernel_rfl) (by kernel_rfl) (by kernel_rfl) (fun _ _ _ h => h) (Or.inl ⟨by rfl, ?_⟩) (by assumption) ?_
  rotate_left
  · intro w hSw
    try dsimp only at hSw
    go_simp
    try with_reducible rfl
  try simp only [Act.put, List.setIfInBounds_toArray, List.set_cons_zero, List.set_cons_succ]
  refine wpAnyH_take (i := 7) (v := ?_) (by simp only [List.getElem?_toArray, List.getElem?_cons_succ, List.getElem?_cons_zero]; rfl) (by kernel_rfl) (by kernel_rfl) (by kernel_rfl) (fun _ _ _ h => h) (Or.inl ⟨by rfl, ?_⟩) (by assumption) ?_
  rotate_left
  · intro w hSw
    try dsimp only at hSw
    go_simp
    try with_reducible rfl
  try simp only [Act.put, List.setIfInBounds_toArray, List.set_cons_zero, List.set_cons_succ]
  refine wpAnyH_take (i := 8) (v := ?_) (by simp only [List.getElem?_toArray, List.getElem?_cons_succ, List.getElem?_cons_zero]; rfl) (by kernel_rfl) (by kernel_rfl) (by kernel_rfl) (fun _ _ _ h => h) (Or.inl ⟨by rfl, ?_⟩) (by assumption) ?_
  rotate_left
  · intro w hSw
    try dsimp only at hSw
    go_simp
    try with_reducible rfl
  try simp only [Act.put, List.setIfInBounds_toArray, List.set_cons_zero, List.set_cons_succ]
  refine wpAnyH_take (i := 9) (v := ?_) (by simp only [List.getElem?_toArray, List.getElem?_cons_succ, List.getElem?_cons_zero]; rfl) (by kernel_rfl) (by kernel_rfl) (by kernel_rfl) (fun _ _ _ h => h) (Or.inl ⟨by rfl, ?_⟩) (by assumption) ?_
  rotate_left
  · intro w hSw
    try dsimp only at hSw
    go_simp
    try with_reducible rfl
  try simp only [Act.put, List.setIfInBounds_toArray, List.set_cons_zero, List.set_cons_succ]
  refine wpAnyH_ready (rs := [10]) (by kernel_rfl) (by simp) ?_
  refine AllReadyH.cons (by simp only [List.getElem?_toArray, List.getElem?_cons_succ, List.getElem?_cons_zero]; rfl) (fun K hK => ?_) AllReadyH.nil
  go_simp
  refine (HXF.out _ (below_dn (m := 1) (Below.refl _ w))).mono ?_
  rintro e w1 ⟨u1, rfl, o1, b1⟩
  obtain ⟨p1, cc1, rfl⟩ := own_slice o1
  have B1 : Hid (Below w.heap.size w w1) := Lib.hid ((below_dn (m := 1) (Below.refl _ w)).trans b1)
  have O1 : Hid (BOwn w1 w.heap.size (.slice p1 (frm k x).length cc1) (frm k x)) := Lib.hid o1
  have HFL : Hid ((frm k x).length ≤ 140737488351232) := Lib.hid (by rw [frm_len]; omega)
  obtain ⟨fm, hfm⟩ : ∃ z, z = frm k x := ⟨_, rfl⟩
  rw [← hfm] at O1 HFL HAD ⊢
  clear o1 b1 hfm
  have q1 : w1.cell? ⟨l, 0, none⟩ = some (.pointer (some ⟨r, 0, none⟩)) ∧ w1.cell? ⟨l, 1, none⟩ = some (stv nm) := ⟨cell_kb c0 B1.out, cell_kb c1 B1.out⟩
  go_wp2_with fail
  refine hK.out _ _ q1 (fun hHeld => ?_)
  clear hK K
  try simp only [Act.put, List.setIfInBounds_toArray, List.set_cons_zero, List.set_cons_succ]
  refine wpAnyH_ready (rs := [11]) (by kernel_rfl) (by simp) ?_
  refine AllReadyH.cons (by simp only [List.getElem?_toArray, List.getElem?_cons_succ, List.getElem?_cons_zero]; rfl) (fun K hK => ?_) AllReadyH.nil
  go_simp
  refine (rappend_to w1 B r A s nm _ fm (H.out.1.kb B1.out) HG.out HW.out HF.out hn (Seen.own O1.out) HFL.out).mono ?_
  rintro e w2 ⟨rfl, hp2⟩
  obtain ⟨A2, d1, d2, d3, d4⟩ := (H.out.kb B1.out).disk hp2
  have HP2 : Hid (RLS w2 B r l A2 (s.append nm fm).2 nm R) := Lib.hid d1
  have HL1 := Lib.hid (HRL.out.kb B1.out)
  have HRL2 : Hid (RL w2 B r l A2 nm vl E) := Lib.hid (by
    have hh := (H.out.1.kb B1.out).lts
    refine (HL1.out.kept d2 (fun e => HRL.out.lr e) (fun j hj e => hh.2.2.2.1 (e ▸ hj))).mono d4 (fun e => (d3 l e).elim HRL.out.nl (fun e => by have := HL1.out.lt; omega))
    )
  have HO2 : Hid (Only (fun k => k = r) w w2) := Lib.hid ((Only.of_below B1.out).trans (S := fun k => k = r) d2 (fun _ h => h) (fun _ _ h => h))
  have HA2 : Hid (∀ j, A2 j → A j ∨ w.heap.size ≤ j) := Lib.hid (fun j hj => (d3 j hj).imp id (fun e => Nat.le_trans B1.out.size e))
  have q2 : w2.cell? ⟨l, 0, none⟩ = some (.pointer (some ⟨r, 0, none⟩)) ∧ w2.cell? ⟨l, 1, none⟩ = some (stv nm) := ⟨HRL2.out.c0, HRL2.out.c1⟩
  clear hp2 d1 d2 d3 d4 HL1
  go_wp2_with fail
  refine hK.out _ _ q2 (fun hHeld => ?_)
  clear hK K
  try simp only [Act.put, List.setIfInBounds_toArray, List.set_cons_zero, List.set_cons_succ]
  refine wpAnyH_take (i := 12) (v := ?_) (by simp only [List.getElem?_toArray, List.getElem?_cons_succ, List.getElem?_cons_zero]; rfl) (by kernel_rfl) (by kernel_rfl) (by kernel_rfl) (fun _ _ _ h => h) (Or.inl ⟨by rfl, ?_⟩) (by assumption) ?_
  rotate_left
  · intro w hSw
    try dsimp only at hSw
    go_simp
    try with_reducible rfl
  try simp only [Act.put, List.setIfInBounds_toArray, List.set_cons_zero, List.set_cons_succ]
  refine wpAnyH_done (by kernel_rfl) ?_ _
  refine NoPanic.normal ?_
  clear c0 c1 q1 q2
  obtain ⟨ar, har⟩ : ∃ z, z = s.append nm fm := ⟨_, rfl⟩
  rw [← har] at HAD HP2 ⊢
  clear har
  by_cases he : ar.1 = 0
  case' neg =>
    have HA1 : Hid (addS s nm R k x = (ar.1, ar.2, R)) := Lib.hid (by rw [HAD.out, if_neg he])
    go_wp2_with fail
    go_ret
    exact ⟨by rw [HA1.out]; rfl, by rw [HA1.out]; exact ⟨A2, HP2.out, HO2.out.mono (fun _ _ e => .inl e), HA2.out⟩⟩
  case' pos =>
    have HA1 : Hid (addS s nm R k x = (0, ar.2, R ++ [(k, x)])) := Lib.hid (by rw [HAD.out, if_pos he])
    rw [he]
    clear he HAD
    obtain ⟨i0, hi0, hz0, hz1, hz2⟩ := info_parts xinfo
    obtain ⟨pl, cl, rfl, _⟩ := HRL2.out.rows.slice
    obtain ⟨n, hnn⟩ : ∃ n, n = E.length := ⟨_, rfl⟩
    have c2 : (w2.alloc (.cells #[] 65)).cell? ⟨l, 2, none⟩ = some (.slice pl n cl) := by rw [hnn]; exact cell_kb HRL2.out.c2 ((Below.refl _ w2).alloc (Nat.le_refl _) _)
    have HXA : Hid (XAt w2 A2 (.slice pl n cl) E) := Lib.hid (by rw [hnn]; exact HRL2.out.rows)
    have HNE := Lib.hid hnn
    have HNB : Hid (E.length ≤ 200000000) := Lib.hid (by have h1 := ends_many (rcs E); have h2 := HRL.out.small; rw [rcs_len] at h1; omega)
    have HN9 : Hid (n + 1 ≤ maxLen ∧ (n + 1) * 32 ≤ 140737488355328) := Lib.hid (by rw [hnn]; have := HNB.out; unfold maxLen; omega)
    have hown : Hid ((w2.alloc (.cells #[] 65)).ownsRow w2.heap.size 65 2 (.slice (some ⟨w2.heap.size, 0, none⟩) 0 0) 0 []) := Lib.hid (World.ownsRow_made (base := w2.heap.size) (e := 65) (size := 2) w2 #[] 0 (Nat.le_refl _) (by decide) rfl)
    have HB3 : Hid (Below w2.heap.size w2 (w2.alloc (.cells #[] 65))) := Lib.hid ((Below.refl _ w2).alloc (Nat.le_refl _) _)
    have HXS : Hid (Seen w2 (.slice a x.length cap) x) := Lib.hid (HX.out.only HO2.out (fun j hj e => HXO.out j hj e))
    have HXL : Hid (([] : List Int).length + x.length ≤ 140737488351232) := Lib.hid (by simp; omega)
    have HL2 : Hid (l < w2.heap.size) := Lib.hid HRL2.out.lt
    clear hnn
    go_wp2_with (first
      | (at_builtin; refine wpList_append_lies _ (by rfl) (.tmp 40) (.tmp 46) _ (by rfl) w2.heap.size 65 i0 _ 2 32 Tryz.underlying61 hi0 hz0 hz1 hz2 rfl (by omega) (.slice p4 n c4) n (xrows E) (by rfl) (O4.out.alloc _) ⟨w6.heap.size, 0, none⟩ 1 1 [.int .i64 k, .slice p6 x.length c6] (by rfl) (by rfl) (World.news_of_block (cs := #[.int .i64 k, .slice p6 x.length c6]) (t := 65) (fr := (0, 0)) (heap_alloc_new w6 _)) (by simp [Value.oneCell']) (by decide) HN9.out.1 HN9.out.2 (Nat.le_trans B6.out.size (by simp)) (w6.heap.size + 1) (by simp) ?_; intro gg cc7 w7 own7 grow7 _ _; have O7 : Hid (w7.ownsRow w2.heap.size 65 2 (.slice (some ⟨gg, 0, none⟩) (n + 1) cc7) (n + 1) (xrows E ++ [.int .i64 k, .slice p6 x.length c6])) := Lib.hid own7; have B7 : Hid (Below w2.heap.size w2 w7) := Lib.hid ((B6.out.alloc B6.out.size _).grown grow7 (Nat.le_trans B6.out.size (by simp)) (fun k hk => (O4.out.lt k hk).1)); have U7 : Hid (BOwn w7 w2.heap.size (.slice p6 x.length c6) x) := Lib.hid (grown_beside (U6.out.alloc _) grow7 (beside_ne U6.out O4.out)); have z7 := (HRL2.out.kb B7.out).fz 2; have y7 := (HRL2.out.kb B7.out).c2; clear own7 grow7)
      | (at_builtin; refine append_bytes (by rfl) (.tmp 42) (.tmp 43) (by rfl) w2.heap.size (.slice (some ⟨w4.heap.size, 0, none⟩) 0 0) [] (by rfl) hown5.out (.slice a x.length cap) x (by rfl) ((HXS.out.kb B4.out).kb HB5.out) HXL.out (Nat.le_trans B4.out.size HB5.out.size) ?_; intro v6 w6 own6 grow6 _; obtain ⟨p6, c6, rfl⟩ := own_slice own6; have U6 : Hid (BOwn w6 w2.heap.size (.slice p6 x.length c6) x) := Lib.hid own6; have B6 : Hid (Below w2.heap.size w2 w6) := Lib.hid ((B4.out.trans (HB5.out.mono B4.out.size)).grown grow6 (Nat.le_trans B4.out.size HB5.out.size) (fun k hk => by cases hk; exact B4.out.size)); have O6 : Hid (w6.ownsRow w2.heap.size 65 2 (.slice p4 n c4) n (xrows E)) := Lib.hid (grown_beside (O4.out.alloc _) grow6 (fun k hk e => by have h1 := (O4.out.lt _ hk).2; have h2 : w4.heap.size = k := Option.some.inj e; omega)); clear own6 grow6 O4; have O4 := O6; clear O6)
      | (at_builtin; refine append_recs (by rfl) (.tmp 35) (.tmp 39) (by rfl) w2.heap.size (.slice (some ⟨w2.heap.size, 0, none⟩) 0 0) (by rfl) hown.out (.slice pl n cl) n E HNE.out (by rfl) (HXA.out.kb HB3.out) HNB.out HB3.out.size ?_; intro v4 w4 own4 grow4; obtain ⟨p4, c4, hv4⟩ := own_form own4; subst hv4; have O4 : Hid (w4.ownsRow w2.heap.size 65 2 (.slice p4 n c4) n (xrows E)) := Lib.hid own4; have B4 : Hid (Below w2.heap.size w2 w4) := Lib.hid (HB3.out.grown grow4 HB3.out.size (fun k hk => (hown.out.lt k hk).1)); have hown5 : Hid (BOwn (w4.alloc (.cells #[] 5)) w2.heap.size (.slice (some ⟨w4.heap.size, 0, none⟩) 0 0) []) := Lib.hid (World.ownsRow_made (base := w2.heap.size) (e := 5) (size := 1) w4 #[] 0 B4.out.size (by decide) rfl); have HB5 : Hid (Below w4.heap.size w4 (w4.alloc (.cells #[] 5))) := Lib.hid ((Below.refl _ w4).alloc (Nat.le_refl _) _); clear own4 grow4))
    go_ret
    refine ⟨by rw [HA1.out]; rfl, ?_⟩
    rw [HA1.out]
    have hre := HRE.out
    subst hre
    exact radd_end HP2.out HRL2.out HO2.out HA2.out B7.out O7.out (by rw [HNE.out]) U7.out HRK.out HRR.out
end Go.Proofs.YtageblggakfbdaaGreatDoor
namespace Go.Proofs.YtageblggakfbdaaGreatDoor
open Go.RowKit
open Go.Maps

theorem xslice_run {w : World} {A : Nat → Prop} {p : Option Addr} {n cap : Nat} {E : List Re} (h : XAt w A (.slice p n cap) E) (hn : n = E.length) {k : Nat} (hk : k ≤ n) (W : World) : (Instr.slice 61 (.slice p n cap) none (some (.int .i64 k)) none).run Tryz.prog W = .ok (.slice p k cap) W := by
  obtain ⟨h1, h2⟩ := h.form hn
  have h3 : (k : Int) ≤ (cap : Int) := by omega
  have h4 : (0 : Int) ≤ (k : Int) := by omega
  cases p with
  | none =>
    obtain ⟨rfl, rfl⟩ := h2 rfl
    have hk0 : k = 0 := by omega
    subst hk0
    simp [Instr.slice, run_underlying Tryz.underlying61, go_sem]
  | some a => simp [Instr.slice, run_underlying Tryz.underlying61, go_sem, h3, h4]
theorem rcut_end {w w2 : World} {B r l : Nat} {A A2 : Nat → Prop} {s2 : St} {nm : Key} {p : Option Addr} {n cap k : Nat} {E : List Re} (h1 : RLS w2 B r l A2 s2 nm (rcs E)) (h2 : RL w2 B r l A2 nm (.slice p n cap) E) (hn : n = E.length) (hk : k ≤ n) (o1 : Only (fun k => k = r) w w2) (hA : ∀ k, A2 k → A k ∨ w.heap.size ≤ k) : RLPost w B r l A s2 nm ((rcs E).take k) (w2.setCell ⟨l, 2, none⟩ (.slice p k cap)) := by
  have os : Only (fun k => k = l) w2 (w2.setCell ⟨l, 2, none⟩ (.slice p k cap)) := (Only.refl _ w2).one (S := fun k => k = l) rfl _
  refine ⟨A2, ⟨h1.1.kept os (fun e => h2.lr e.symm) (fun j hj e => h2.nl (e ▸ hj)), .slice p k cap, E.take k, ?_, by rw [rcs_take]⟩, ?_, hA⟩
  · refine { obj := ?_, rows := (h2.rows.take hn k hk).kept os (fun j hj e => h2.nl (e ▸ hj)), nl := h2.nl, lr := h2.lr, bb := h2.bb, rok := fun e he => h2.rok e (List.mem_of_mem_take he), small := Nat.le_trans (ends_takes E k) h2.small }
    have := Lib.heap_setCell_same (i := 2) h2.obj (.slice p k cap)
    rw [this]; rfl
  · exact (o1.mono (S := fun k => k = r) (T := fun k => k = r ∨ k = l) (fun _ _ e => .inl e)).trans os (fun _ h => h) (fun _ _ h => .inr h)
theorem RLS.disk2 {w w' : World} {B r l : Nat} {A : Nat → Prop} {s s' : St} {nm : Key} {R : List Rc} {vl : Value} {E : List Re} (h : RLS w B r l A s nm R) (hl : RL w B r l A nm vl E) (hp : RPost w B r A s' w') : ∃ A', RLS w' B r l A' s' nm R ∧ RL w' B r l A' nm vl E ∧ Only (fun k => k = r) w w' ∧ ∀ k, A' k → A k ∨ w.heap.size ≤ k := by
  obtain ⟨A', d1, d2, d3, d4⟩ := h.disk hp
  have hh := h.1.lts
  exact ⟨A', d1, (hl.kept d2 (fun e => hl.lr e) (fun j hj e => hh.2.2.2.1 (e ▸ hj))).mono d4 (fun e => (d3 l e).elim hl.nl (fun e => by have := hl.lt; omega)), d2, d3⟩
theorem has_rd {s : St} {nm : Key} (h : s.has nm = false) : s.rd nm = [] := by
  unfold St.has at h
  unfold St.rd
  split
  · rfl
  · rename_i hd
    rw [if_neg hd] at h
    unfold fbytes
    cases hg : aget nm s.files with
    | none => rfl
    | some x => rw [hg] at h; simp at h
theorem rread_has (w : World) (B b : Nat) (A : Nat → Prop) (s : St) (n : Key) (h : RS w B b A s) (hg : Good s) (hw : s.works ≤ 900000) :
    Calls Tryz.prog 64 #[.pointer (some ⟨b,0,none⟩), stv n] w fun e w' => ∃ p cap, e = .returned (.tuple #[.slice p (s.rd n).length cap, .bool (s.has n)]) ∧ BAt w' (fun k => A k ∨ w.heap.size ≤ k) (.slice p (s.rd n).length cap) (s.rd n) ∧ Below w.heap.size w w' := rread_to w B b A s n h hg hw
set_option maxRecDepth 20000 in
set_option maxHeartbeats 8000000 in
theorem rcut_to (w : World) (B r l : Nat) (A : Nat → Prop) (s : St) (nm : Key) (R : List Rc) (L : Int) (h : RLS w B r l A s nm R) (hg : Good s) (hw : s.works ≤ 900000) (hf : s.fuse < 9223372036854775808) (hn : nm.length ≤ 4611686018427387904) :
    Calls Tryz.prog 31 #[.pointer (some ⟨l, 0, none⟩), .int .i64 L] w (RAdd w B r l A nm (cutS s nm R L)) := by
  have H := Lib.hid h
  obtain ⟨hrs, vl, E, hrl, hre⟩ := h
  subst hre
  obtain ⟨p, cap, rfl, hp⟩ := hrl.rows.slice
  obtain ⟨n, hnn⟩ : ∃ n, n = E.length := ⟨_, rfl⟩
  have hn6 : n ≤ 111111112 := by have h1 := ends_many (rcs E); have h2 := hrl.small; rw [rcs_len] at h1; omega
  rw [← hnn] at hp hrl
  have HN := Lib.hid hnn
  have HP := Lib.hid hp
  have HL := Lib.hid hrl
  have HG := Lib.hid hg
  have HW := Lib.hid hw
  have HF := Lib.hid hf
  have HNM := Lib.hid hn
  have c0 := hrl.c0
  have c1 := hrl.c1
  have c2 := hrl.c2
  have HS : Hid (RLPost w B r l A s nm (rcs E) w) := Lib.hid (RLPost.same H.out (Below.refl _ _))
  unfold RAdd
  clear hrs hrl hp hnn hg hw hf hn
  go_enter Tryz.func31, Tryz.ntmps31
  go_wp2_with fail
  go_loopw [5, 6] (fun sm i wr => ∃ k t : Nat, k ≤ n ∧ i = .int .i64 k ∧ sm = .int .i64 t ∧ Hid (t = ends (rcs (E.take k))) ∧ Hid (∀ j, j < k → (ends (rcs (E.take j)) : Int) < L) ∧ wr = w) (fun _ i _ => n - (intOf i).toNat)
  case atStart => exact ⟨0, 0, Nat.zero_le _, rfl, rfl, Lib.hid rfl, Lib.hid (fun j hj => absurd hj (Nat.not_lt_zero _)), rfl⟩
  case round =>
    obtain ⟨k, t, hk, rfl, rfl, HT, HJ, rfl⟩ := hrel
    have htb : t ≤ 1000000000 := by rw [HT.out]; exact Nat.le_trans (ends_takes E k) HL.out.small
    by_cases hlt : k < n
    · by_cases htl : (t : Int) < L
      · have hkE : k < E.length := by rw [← HN.out]; exact hlt
        obtain ⟨g, o, rfl⟩ := HP.out (by omega)
        have e1 := XAt.at HL.out.rows hkE (c := 1) (by omega) rfl
        obtain ⟨pb, cb, hb⟩ := len_val (HL.out.rows.bod E[k] (List.getElem_mem hkE)).seen
        rw [hb] at e1
        have hts := ends_step hkE
        have htl2 := ends_takes E (k + 1)
        rw [hts, ← HT.out] at htl2
        rw [← HT.out] at hts
        have HTS := Lib.hid hts
        have h63 := HL.out.small
        clear hb
        generalize E[k].2.2.length = q at *
        have hq : t + q ≤ 1000000000 := by omega
        obtain ⟨z, hz⟩ : ∃ z : Nat, z = t + (9 + q) := ⟨_, rfl⟩
        have ha63 : IntKind.i64.wrap ((t : Int) + 9) = (t : Int) + 9 := IntWalk.i64_in _ (by omega)
        have hz64 : (t : Int) + 9 + q = (z : Int) := by omega
        have hzb : z ≤ 1000000000 := by omega
        have HZ := Lib.hid hz
        have HTL := Lib.hid htl
        clear hts htl2 h63 hz hq c0 c1
        go_wp2_with fail
        exact ⟨⟨k + 1, z, by omega, by simp, rfl, Lib.hid (by rw [HTS.out, HZ.out]), Lib.hid (fun j hj => by
          rcases Nat.lt_or_ge j k with h | h
          · exact HJ.out j h
          · obtain rfl : j = k := by omega
            rw [← HT.out]; exact HTL.out), trivial⟩, by simp [intOf]; omega⟩
      · by_cases hne : (t : Int) = L
        case' neg =>
          have HA : Hid (cutS s nm (rcs E) L = (1, s, rcs E)) := Lib.hid (by
            unfold cutS
            rw [cutAt_none (fun j hj e => ?_)]
            rw [rcs_len, ← HN.out] at hj
            rw [← rcs_take] at e
            rcases Nat.lt_trichotomy j k with h | h | h
            · have := HJ.out j h; omega
            · subst h; rw [← HT.out] at e; exact hne e
            · have h2 := ends_take_lt (R := rcs E) h (by rw [rcs_len, ← HN.out]; exact hj)
              rw [← rcs_take, ← rcs_take, ← HT.out] at h2
              omega)
          go_wp2_with fail
          go_ret
          exact ⟨by rw [HA.out]; rfl, by rw [HA.out]; exact HS.out⟩
        case' pos =>
          have HA : Hid (cutS s nm (rcs E) L = if (trS s nm L).1 = 0 then (0, (trS s nm L).2, (rcs E).take k) else ((trS s nm L).1, (trS s nm L).2, rcs E)) := Lib.hid (by
            unfold cutS
            rw [cutAt_some (k := k) (by rw [rcs_len, ← HN.out]; exact hk) (by rw [← rcs_take, ← HT.out]; exact hne)])
          subst hne
          go_wp2_with fail
          try simp only [List.append]
          refine wp_region_noPanic ?_
          refine wp_region_held_drew (S := (fun W => W.cell? ⟨l, 0, none⟩ = some (.pointer (some ⟨r, 0, none⟩)) ∧ W.cell? ⟨l, 1, none⟩ = some (stv nm))) (by kernel_rfl) ⟨c0, c1⟩ (fun hHeld => ?_)
          refine wpAnyH_take (i := 0) (v := ?_) (by simp only [List.getElem?_toArray, List.getElem?_cons_zero]; rfl) (by kernel_rfl) (by kernel_rfl) (by kernel_rfl) (fun _ _ _ h => h) (Or.inl ⟨by rfl, ?_⟩) (by assumption) ?_
          rotate_left
          · intro w hSw
            try dsimp only at hSw
            go_simp
            try with_reducible rfl
          try simp only [Act.put, List.setIfInBounds_toArray, List.set_cons_zero, List.set_cons_succ]
          refine wpAnyH_take (i := 1) (v := ?_) (by simp only [List.getElem?_toArray, List.getElem?_cons_succ, List.getElem?_cons_zero]; rfl) (by kernel_rfl) (by kernel_rfl) (by kernel_rfl) (fun _ _ _ h => h) (Or.inl ⟨by rfl, ?_⟩) (by assumption) ?_
          rotate_left
          · intro w hSw
            try dsimp only at hSw
            go_simp
            try with_reducible rfl
          try simp only [Act.put, List.setIfInBounds_toArray, List.set_cons_zero, List.set_cons_succ]
          refine wpAnyH_take (i := 2) (v := ?_) (by simp only [List.getElem?_toArray, List.getElem?_cons_succ, List.getElem?_cons_zero]; rfl) (by kernel_rfl) (by kernel_rfl) (by kernel_rfl) (fun _ _ _ h => h) (Or.inl ⟨by rfl, ?_⟩) (by assumption) ?_
          rotate_left
          · intro w hSw
            try dsimp only at hSw
            go_simp
            try with_reducible rfl
          try simp only [Act.put, List.setIfInBounds_toArray, List.set_cons_zero, List.set_cons_succ]
          refine wpAnyH_take (i := 3) (v := ?_) (by simp only [List.getElem?_toArray, List.getElem?_cons_succ, List.getElem?_cons_zero]; rfl) (by kernel_rfl) (by kernel_rfl) (by kernel_rfl) (fun _ _ _ h => h) (Or.inl ⟨by rfl, ?_⟩) (by assumption) ?_
          rotate_left
          · intro w hSw
            try dsimp only at hSw
            go_simp
            try with_reducible rfl
          try simp only [Act.put, List.setIfInBounds_toArray, List.set_cons_zero, List.set_cons_succ]
          refine wpAnyH_take (i := 4) (v := ?_) (by simp only [List.getElem?_toArray, List.getElem?_cons_succ, List.getElem?_cons_zero]; rfl) (by kernel_rfl) (by kernel_rfl) (by kernel_rfl) (fun _ _ _ h => h) (Or.inl ⟨by rfl, ?_⟩) (by assumption) ?_
          rotate_left
          · intro w hSw
            try dsimp only at hSw
            go_simp
            try with_reducible rfl
          try simp only [Act.put, List.setIfInBounds_toArray, List.set_cons_zero, List.set_cons_succ]
          refine wpAnyH_take (i := 5) (v := ?_) (by simp only [List.getElem?_toArray, List.getElem?_cons_succ, List.getElem?_cons_zero]; rfl) (by kernel_rfl) (by kernel_rfl) (by kernel_rfl) (fun _ _ _ h => h) (Or.inl ⟨by rfl, ?_⟩) (by assumption) ?_
          rotate_left
          · intro w hSw
            try dsimp only at hSw
            go_simp
            try with_reducible rfl
          try simp only [Act.put, List.setIfInBounds_toArray, List.set_cons_zero, List.set_cons_succ]
          refine wpAnyH_take (i := 6) (v := ?_) (by simp only [List.getElem?_toArray, List.getElem?_cons_succ, List.getElem?_cons_zero]; rfl) (by kernel_rfl) (by kernel_rfl) (by kernel_rfl) (fun _ _ _ h => h) (Or.inl ⟨by rfl, ?_⟩) (by assumption) ?_
          rotate_left
          · intro w hSw
            try dsimp only at hSw
            go_simp
            try with_reducible rfl
          try simp only [Act.put, List.setIfInBounds_toArray, List.set_cons_zero, List.set_cons_succ]
          refine wpAnyH_take (i := 7) (v := ?_) (by simp only [List.getElem?_toArray, List.getElem?_cons_succ, List.getElem?_cons_zero]; rfl) (by kernel_rfl) (by kernel_rfl) (by kernel_rfl) (fun _ _ _ h => h) (Or.inl ⟨by rfl, ?_⟩) (by assumption) ?_
          rotate_left
          · intro w hSw
            try dsimp only at hSw
            go_simp
            try with_reducible rfl
          try simp only [Act.put, List.setIfInBounds_toArray, List.set_cons_zero, List.set_cons_succ]
          refine wpAnyH_ready (rs := [8]) (by kernel_rfl) (by simp) ?_
          refine AllReadyH.cons (by simp only [List.getElem?_toArray, List.getElem?_cons_succ, List.getElem?_cons_zero]; rfl) (fun K hK => ?_) AllReadyH.nil
          go_simp
          refine (rread_has wr.drew B r A s nm (H.out.1.kb (below_dn (m := 1) (Below.refl _ wr))) HG.out HW.out).mono ?_
          rintro e w1 ⟨p1, cc1, rfl, _, b1⟩
          have B1 : Hid (Below wr.heap.size wr w1) := Lib.hid ((below_dn (m := 1) (Below.refl _ wr)).trans b1)
          have q1 : w1.cell? ⟨l, 0, none⟩ = some (.pointer (some ⟨r, 0, none⟩)) ∧ w1.cell? ⟨l, 1, none⟩ = some (stv nm) := ⟨cell_kb c0 B1.out, cell_kb c1 B1.out⟩
          obtain ⟨hb, hhb⟩ : ∃ z, z = s.has nm := ⟨_, rfl⟩
          obtain ⟨rl, hrl⟩ : ∃ z, z = (s.rd nm).length := ⟨_, rfl⟩
          rw [← hhb, ← hrl]
          have HHB := Lib.hid hhb
          clear b1 hhb hrl
          go_wp2_with fail
          refine hK.out _ _ q1 (fun hHeld => ?_)
          clear hK K
          try simp only [Act.put, List.setIfInBounds_toArray, List.set_cons_zero, List.set_cons_succ]
          refine wpAnyH_take (i := 9) (v := ?_) (by simp only [List.getElem?_toArray, List.getElem?_cons_succ, List.getElem?_cons_zero]; rfl) (by kernel_rfl) (by kernel_rfl) (by kernel_rfl) (fun _ _ _ h => h) (Or.inl ⟨by rfl, ?_⟩) (by assumption) ?_
          rotate_left
          · intro w hSw
            try dsimp only at hSw
            go_simp
            try with_reducible rfl
          try simp only [Act.put, List.setIfInBounds_toArray, List.set_cons_zero, List.set_cons_succ]
          refine wpAnyH_take (i := 10) (v := ?_) (by simp only [List.getElem?_toArray, List.getElem?_cons_succ, List.getElem?_cons_zero]; rfl) (by kernel_rfl) (by kernel_rfl) (by kernel_rfl) (fun _ _ _ h => h) (Or.inl ⟨by rfl, ?_⟩) (by assumption) ?_
          rotate_left
          · intro w hSw
            try dsimp only at hSw
            go_simp
            try with_reducible rfl
          try simp only [Act.put, List.setIfInBounds_toArray, List.set_cons_zero, List.set_cons_succ]
          refine wpAnyH_take (i := 11) (v := ?_) (by simp only [List.getElem?_toArray, List.getElem?_cons_succ, List.getElem?_cons_zero]; rfl) (by kernel_rfl) (by kernel_rfl) (by kernel_rfl) (fun _ _ _ h => h) (Or.inl ⟨by rfl, ?_⟩) (by assumption) ?_
          rotate_left
          · intro w hSw
            try dsimp only at hSw
            go_simp
            try with_reducible rfl
          try simp only [Act.put, List.setIfInBounds_toArray, List.set_cons_zero, List.set_cons_succ]
          refine wpAnyH_take (i := 12) (v := ?_) (by simp only [List.getElem?_toArray, List.getElem?_cons_succ, List.getElem?_cons_zero]; rfl) (by kernel_rfl) (by kernel_rfl) (by kernel_rfl) (fun _ _ _ h => h) (Or.inl ⟨by rfl, ?_⟩) (by assumption) ?_
          rotate_left
          · intro w hSw
            try dsimp only at hSw
            go_simp
            try with_reducible rfl
          try simp only [Act.put, List.setIfInBounds_toArray, List.set_cons_zero, List.set_cons_succ]
          refine wpAnyH_take (i := 13) (v := ?_) (by simp only [List.getElem?_toArray, List.getElem?_cons_succ, List.getElem?_cons_zero]; rfl) (by kernel_rfl) (by kernel_rfl) (by kernel_rfl) (fun _ _ _ h => h) (Or.inl ⟨by rfl, ?_⟩) (by assumption) ?_
          rotate_left
          · intro w hSw
            try dsimp only at hSw
            go_simp
            try with_reducible rfl
          try simp only [Act.put, List.setIfInBounds_toArray, List.set_cons_zero, List.set_cons_succ]
          refine wpAnyH_done (by kernel_rfl) ?_ _
          refine NoPanic.normal ?_
          clear c0 c1
          by_cases hsk : hb = false ∧ t = 0
          case' pos =>
            obtain ⟨rfl, rfl⟩ := hsk
            have HA2 : Hid (cutS s nm (rcs E) ((0 : Nat) : Int) = (0, s, (rcs E).take k)) := Lib.hid (by
              have h0 : trS s nm ((0 : Nat) : Int) = (0, s) := by unfold trS; rw [if_pos ⟨rfl, HHB.out.symm⟩]
              rw [HA.out, h0]; rfl)
            have HL1 := Lib.hid (HL.out.kb B1.out)
            have c2 := HL1.out.c2
            have z2 := HL1.out.fz 2
            have hsl := fun W => xslice_run HL.out.rows HN.out hk W
            go_wp2_with fail
            go_ret
            refine ⟨by rw [HA2.out]; rfl, ?_⟩
            rw [HA2.out]
            exact rcut_end (H.out.kb B1.out) HL1.out HN.out hk (Only.of_below B1.out) (fun j hj => .inl hj)
          case' neg =>
            have HTR : Hid (trS s nm (t : Int) = s.truncate nm (t : Int)) := Lib.hid (by unfold trS; rw [if_neg (fun e => hsk ⟨HHB.out.trans e.2, by have := e.1; omega⟩)])
            obtain ⟨q1a, q1b⟩ := q1
            have hor : hb = false → (0 : Int) < (t : Int) := by
              intro e
              have : ¬ t = 0 := fun e2 => hsk ⟨e, e2⟩
              omega
            clear hsk
            cases hb
            case' false => have ht0 := hor rfl
            all_goals
              clear hor
              go_wp2_with fail
              try simp only [List.append]
              refine wp_region_noPanic ?_
              refine wp_region_held_drew (S := (fun W => W.cell? ⟨l, 0, none⟩ = some (.pointer (some ⟨r, 0, none⟩)) ∧ W.cell? ⟨l, 1, none⟩ = some (stv nm))) (by kernel_rfl) ⟨q1a, q1b⟩ (fun hHeld => ?_)
              refine wpAnyH_take (i := 0) (v := ?_) (by simp only [List.getElem?_toArray, List.getElem?_cons_zero]; rfl) (by kernel_rfl) (by kernel_rfl) (by kernel_rfl) (fun _ _ _ h => h) (Or.inl ⟨by rfl, ?_⟩) (by assumption) ?_
              rotate_left
              · intro w hSw
                try dsimp only at hSw
                go_simp
                try with_reducible rfl
              try simp only [Act.put, List.setIfInBounds_toArray, List.set_cons_zero, List.set_cons_succ]
              refine wpAnyH_take (i := 1) (v := ?_) (by simp only [List.getElem?_toArray, List.getElem?_cons_succ, List.getElem?_cons_zero]; rfl) (by kernel_rfl) (by kernel_rfl) (by kernel_rfl) (fun _ _ _ h => h) (Or.inl ⟨by rfl, ?_⟩) (by assumption) ?_
              rotate_left
              · intro w hSw
                try dsimp only at hSw
                go_simp
                try with_reducible rfl
              try simp only [Act.put, List.setIfInBounds_toArray, List.set_cons_zero, List.set_cons_succ]
              refine wpAnyH_take (i := 2) (v := ?_) (by simp only [List.getElem?_toArray, List.getElem?_cons_succ, List.getElem?_cons_zero]; rfl) (by kernel_rfl) (by kernel_rfl) (by kernel_rfl) (fun _ _ _ h => h) (Or.inl ⟨by rfl, ?_⟩) (by assumption) ?_
              rotate_left
              · intro w hSw
                try dsimp only at hSw
                go_simp
                try with_reducible rfl
              try simp only [Act.put, List.setIfInBounds_toArray, List.set_cons_zero, List.set_cons_succ]
              refine wpAnyH_take (i := 3) (v := ?_) (by simp only [List.getElem?_toArray, List.getElem?_cons_succ, List.getElem?_cons_zero]; rfl) (by kernel_rfl) (by kernel_rfl) (by kernel_rfl) (fun _ _ _ h => h) (Or.inl ⟨by rfl, ?_⟩) (by assumption) ?_
              rotate_left
              · intro w hSw
                try dsimp only at hSw
                go_simp
                try with_reducible rfl
              try simp only [Act.put, List.setIfInBounds_toArray, List.set_cons_zero, List.set_cons_succ]
              refine wpAnyH_take (i := 4) (v := ?_) (by simp only [List.getElem?_toArray, List.getElem?_cons_succ, List.getElem?_cons_zero]; rfl) (by kernel_rfl) (by kernel_rfl) (by kernel_rfl) (fun _ _ _ h => h) (Or.inl ⟨by rfl, ?_⟩) (by assumption) ?_
              rotate_left
              · intro w hSw
                try dsimp only at hSw
                go_simp
                try with_reducible rfl
              try simp only [Act.put, List.setIfInBounds_toArray, List.set_cons_zero, List.set_cons_succ]
              refine wpAnyH_take (i := 5) (v := ?_) (by simp only [List.getElem?_toArray, List.getElem?_cons_succ, List.getElem?_cons_zero]; rfl) (by kernel_rfl) (by kernel_rfl) (by kernel_rfl) (fun _ _ _ h => h) (Or.inl ⟨by rfl, ?_⟩) (by assumption) ?_
              rotate_left
              · intro w hSw
                try dsimp only at hSw
                go_simp
                try with_reducible rfl
              try simp only [Act.put, List.setIfInBounds_toArray, List.set_cons_zero, List.set_cons_succ]
              refine wpAnyH_take (i := 6) (v := ?_) (by simp only [List.getElem?_toArray, List.getElem?_cons_succ, List.getElem?_cons_zero]; rfl) (by kernel_rfl) (by kernel_rfl) (by kernel_rfl) (fun _ _ _ h => h) (Or.inl ⟨by rfl, ?_⟩) (by assumption) ?_
              rotate_left
              · intro w hSw
                try dsimp only at hSw
                go_simp
                try with_reducible rfl
              try simp only [Act.put, List.setIfInBounds_toArray, List.set_cons_zero, List.set_cons_succ]
              refine wpAnyH_take (i := 7) (v := ?_) (by simp only [List.getElem?_toArray, List.getElem?_cons_succ, List.getElem?_cons_zero]; rfl) (by kernel_rfl) (by kernel_rfl) (by kernel_rfl) (fun _ _ _ h => h) (Or.inl ⟨by rfl, ?_⟩) (by assumption) ?_
              rotate_left
              · intro w hSw
                try dsimp only at hSw
                go_simp
                try with_reducible rfl
              try simp only [Act.put, List.setIfInBounds_toArray, List.set_cons_zero, List.set_cons_succ]
              refine wpAnyH_take (i := 8) (v := ?_) (by simp only [List.getElem?_toArray, List.getElem?_cons_succ, List.getElem?_cons_zero]; rfl) (by kernel_rfl) (by kernel_rfl) (by kernel_rfl) (fun _ _ _ h => h) (Or.inl ⟨by rfl, ?_⟩) (by assumption) ?_
              rotate_left
              · intro w hSw
                try dsimp only at hSw
                go_simp
                try with_reducible rfl
              try simp only [Act.put, List.setIfInBounds_toArray, List.set_cons_zero, List.set_cons_succ]
              refine wpAnyH_ready (rs := [9]) (by kernel_rfl) (by simp) ?_
              refine AllReadyH.cons (by simp only [List.getElem?_toArray, List.getElem?_cons_succ, List.getElem?_cons_zero]; rfl) (fun K hK => ?_) AllReadyH.nil
              go_simp
              have BD : Below w1.heap.size w1 w1.drew := below_dn (m := 1) (Below.refl _ w1)
              refine (rtruncate_to w1.drew B r A s nm (t : Int) ((H.out.kb B1.out).kb BD).1 HG.out HW.out HF.out HNM.out).mono ?_
              rintro e w2 ⟨rfl, hp2⟩
              obtain ⟨A2, d1, d2, d3, d4⟩ := ((H.out.kb B1.out).kb BD).disk2 ((HL.out.kb B1.out).kb BD) hp2
              have HP2 := Lib.hid d1
              have HL2 := Lib.hid d2
              have HO2 : Hid (Only (fun k => k = r) wr w2) := Lib.hid (((Only.of_below B1.out).trans (S := fun k => k = r) (Only.of_below BD (S := fun k => k = r)) (fun _ h => h) (fun _ _ h => h)).trans d3 (fun _ h => h) (fun _ _ h => h))
              have HA2 : Hid (∀ j, A2 j → A j ∨ wr.heap.size ≤ j) := Lib.hid (fun j hj => (d4 j hj).imp id (fun e => Nat.le_trans B1.out.size e))
              have q2 : w2.cell? ⟨l, 0, none⟩ = some (.pointer (some ⟨r, 0, none⟩)) ∧ w2.cell? ⟨l, 1, none⟩ = some (stv nm) := ⟨HL2.out.c0, HL2.out.c1⟩
              have y2 := HL2.out.c2
              have z2 := HL2.out.fz 2
              have hsl := fun W => xslice_run HL.out.rows HN.out hk W
              rw [HTR.out] at HA
              clear hp2 d1 d2 d3 d4 BD
              go_wp2_with fail
              refine hK.out _ _ q2 (fun hHeld => ?_)
              clear hK K
              try simp only [Act.put, List.setIfInBounds_toArray, List.set_cons_zero, List.set_cons_succ]
              refine wpAnyH_take (i := 10) (v := ?_) (by simp only [List.getElem?_toArray, List.getElem?_cons_succ, List.getElem?_cons_zero]; rfl) (by kernel_rfl) (by kernel_rfl) (by kernel_rfl) (fun _ _ _ h => h) (Or.inl ⟨by rfl, ?_⟩) (by assumption) ?_
              rotate_left
              · intro w hSw
                try dsimp only at hSw
                go_simp
                try with_reducible rfl
              try simp only [Act.put, List.setIfInBounds_toArray, List.set_cons_zero, List.set_cons_succ]
              refine wpAnyH_done (by kernel_rfl) ?_ _
              refine NoPanic.normal ?_
              obtain ⟨ar, har⟩ : ∃ z, z = s.truncate nm (t : Int) := ⟨_, rfl⟩
              rw [← har] at HA HP2 ⊢
              clear har
              by_cases he : ar.1 = 0
              · have HA1 : Hid (cutS s nm (rcs E) (t : Int) = (0, ar.2, (rcs E).take k)) := Lib.hid (by rw [HA.out, if_pos he])
                rw [he]
                clear he
                go_wp2_with fail
                go_ret
                refine ⟨by rw [HA1.out]; rfl, ?_⟩
                rw [HA1.out]
                exact rcut_end HP2.out HL2.out HN.out hk HO2.out HA2.out
              · have HA1 : Hid (cutS s nm (rcs E) (t : Int) = (ar.1, ar.2, rcs E)) := Lib.hid (by rw [HA.out, if_neg he])
                go_wp2_with fail
                go_ret
                exact ⟨by rw [HA1.out]; rfl, by rw [HA1.out]; exact ⟨A2, HP2.out, HO2.out.mono (fun _ _ e => .inl e), HA2.out⟩⟩
    · obtain rfl : k = n := by omega
      by_cases hne : (t : Int) = L
      case' neg =>
        have HA : Hid (cutS s nm (rcs E) L = (1, s, rcs E)) := Lib.hid (by
          unfold cutS
          rw [cutAt_none (fun j hj e => ?_)]
          rw [rcs_len, ← HN.out] at hj
          rw [← rcs_take] at e
          rcases Nat.lt_trichotomy j k with h | h | h
          · have := HJ.out j h; omega
          · subst h; rw [← HT.out] at e; exact hne e
          · omega)
        go_wp2_with fail
        go_ret
        exact ⟨by rw [HA.out]; rfl, by rw [HA.out]; exact HS.out⟩
      case' pos =>
        have HA : Hid (cutS s nm (rcs E) L = if (trS s nm L).1 = 0 then (0, (trS s nm L).2, (rcs E).take k) else ((trS s nm L).1, (trS s nm L).2, rcs E)) := Lib.hid (by
          unfold cutS
          rw [cutAt_some (k := k) (by rw [rcs_len, ← HN.out]; exact hk) (by rw [← rcs_take, ← HT.out]; exact hne)])
        subst hne
        go_wp2_with fail
        try simp only [List.append]
        refine wp_region_noPanic ?_
        refine wp_region_held_drew (S := (fun W => W.cell? ⟨l, 0, none⟩ = some (.pointer (some ⟨r, 0, none⟩)) ∧ W.cell? ⟨l, 1, none⟩ = some (stv nm))) (by kernel_rfl) ⟨c0, c1⟩ (fun hHeld => ?_)
        refine wpAnyH_take (i := 0) (v := ?_) (by simp only [List.getElem?_toArray, List.getElem?_cons_zero]; rfl) (by kernel_rfl) (by kernel_rfl) (by kernel_rfl) (fun _ _ _ h => h) (Or.inl ⟨by rfl, ?_⟩) (by assumption) ?_
        rotate_left
        · intro w hSw
          try dsimp only at hSw
          go_simp
          try with_reducible rfl
        try simp only [Act.put, List.setIfInBounds_toArray, List.set_cons_zero, List.set_cons_succ]
        refine wpAnyH_take (i := 1) (v := ?_) (by simp only [List.getElem?_toArray, List.getElem?_cons_succ, List.getElem?_cons_zero]; rfl) (by kernel_rfl) (by kernel_rfl) (by kernel_rfl) (fun _ _ _ h => h) (Or.inl ⟨by rfl, ?_⟩) (by assumption) ?_
        rotate_left
        · intro w hSw
          try dsimp only at hSw
          go_simp
          try with_reducible rfl
        try simp only [Act.put, List.setIfInBounds_toArray, List.set_cons_zero, List.set_cons_succ]
        refine wpAnyH_take (i := 2) (v := ?_) (by simp only [List.getElem?_toArray, List.getElem?_cons_succ, List.getElem?_cons_zero]; rfl) (by kernel_rfl) (by kernel_rfl) (by kernel_rfl) (fun _ _ _ h => h) (Or.inl ⟨by rfl, ?_⟩) (by assumption) ?_
        rotate_left
        · intro w hSw
          try dsimp only at hSw
          go_simp
          try with_reducible rfl
        try simp only [Act.put, List.setIfInBounds_toArray, List.set_cons_zero, List.set_cons_succ]
        refine wpAnyH_take (i := 3) (v := ?_) (by simp only [List.getElem?_toArray, List.getElem?_cons_succ, List.getElem?_cons_zero]; rfl) (by kernel_rfl) (by kernel_rfl) (by kernel_rfl) (fun _ _ _ h => h) (Or.inl ⟨by rfl, ?_⟩) (by assumption) ?_
        rotate_left
        · intro w hSw
          try dsimp only at hSw
          go_simp
          try with_reducible rfl
        try simp only [Act.put, List.setIfInBounds_toArray, List.set_cons_zero, List.set_cons_succ]
        refine wpAnyH_take (i := 4) (v := ?_) (by simp only [List.getElem?_toArray, List.getElem?_cons_succ, List.getElem?_cons_zero]; rfl) (by kernel_rfl) (by kernel_rfl) (by kernel_rfl) (fun _ _ _ h => h) (Or.inl ⟨by rfl, ?_⟩) (by assumption) ?_
        rotate_left
        · intro w hSw
          try dsimp only at hSw
          go_simp
          try with_reducible rfl
        try simp only [Act.put, List.setIfInBounds_toArray, List.set_cons_zero, List.set_cons_succ]
        refine wpAnyH_take (i := 5) (v := ?_) (by simp only [List.getElem?_toArray, List.getElem?_cons_succ, List.getElem?_cons_zero]; rfl) (by kernel_rfl) (by kernel_rfl) (by kernel_rfl) (fun _ _ _ h => h) (Or.inl ⟨by rfl, ?_⟩) (by assumption) ?_
        rotate_left
        · intro w hSw
          try dsimp only at hSw
          go_simp
          try with_reducible rfl
        try simp only [Act.put, List.setIfInBounds_toArray, List.set_cons_zero, List.set_cons_succ]
        refine wpAnyH_take (i := 6) (v := ?_) (by simp only [List.getElem?_toArray, List.getElem?_cons_succ, List.getElem?_cons_zero]; rfl) (by kernel_rfl) (by kernel_rfl) (by kernel_rfl) (fun _ _ _ h => h) (Or.inl ⟨by rfl, ?_⟩) (by assumption) ?_
        rotate_left
        · intro w hSw
          try dsimp only at hSw
          go_simp
          try with_reducible rfl
        try simp only [Act.put, List.setIfInBounds_toArray, List.set_cons_zero, List.set_cons_succ]
        refine wpAnyH_take (i := 7) (v := ?_) (by simp only [List.getElem?_toArray, List.getElem?_cons_succ, List.getElem?_cons_zero]; rfl) (by kernel_rfl) (by kernel_rfl) (by kernel_rfl) (fun _ _ _ h => h) (Or.inl ⟨by rfl, ?_⟩) (by assumption) ?_
        rotate_left
        · intro w hSw
          try dsimp only at hSw
          go_simp
          try with_reducible rfl
        try simp only [Act.put, List.setIfInBounds_toArray, List.set_cons_zero, List.set_cons_succ]
        refine wpAnyH_ready (rs := [8]) (by kernel_rfl) (by simp) ?_
        refine AllReadyH.cons (by simp only [List.getElem?_toArray, List.getElem?_cons_succ, List.getElem?_cons_zero]; rfl) (fun K hK => ?_) AllReadyH.nil
        go_simp
        refine (rread_has wr.drew B r A s nm (H.out.1.kb (below_dn (m := 1) (Below.refl _ wr))) HG.out HW.out).mono ?_
        rintro e w1 ⟨p1, cc1, rfl, _, b1⟩
        have B1 : Hid (Below wr.heap.size wr w1) := Lib.hid ((below_dn (m := 1) (Below.refl _ wr)).trans b1)
        have q1 : w1.cell? ⟨l, 0, none⟩ = some (.pointer (some ⟨r, 0, none⟩)) ∧ w1.cell? ⟨l, 1, none⟩ = some (stv nm) := ⟨cell_kb c0 B1.out, cell_kb c1 B1.out⟩
        obtain ⟨hb, hhb⟩ : ∃ z, z = s.has nm := ⟨_, rfl⟩
        obtain ⟨rl, hrl⟩ : ∃ z, z = (s.rd nm).length := ⟨_, rfl⟩
        rw [← hhb, ← hrl]
        have HHB := Lib.hid hhb
        clear b1 hhb hrl
        go_wp2_with fail
        refine hK.out _ _ q1 (fun hHeld => ?_)
        clear hK K
        try simp only [Act.put, List.setIfInBounds_toArray, List.set_cons_zero, List.set_cons_succ]
        refine wpAnyH_take (i := 9) (v := ?_) (by simp only [List.getElem?_toArray, List.getElem?_cons_succ, List.getElem?_cons_zero]; rfl) (by kernel_rfl) (by kernel_rfl) (by kernel_rfl) (fun _ _ _ h => h) (Or.inl ⟨by rfl, ?_⟩) (by assumption) ?_
        rotate_left
        · intro w hSw
          try dsimp only at hSw
          go_simp
          try with_reducible rfl
        try simp only [Act.put, List.setIfInBounds_toArray, List.set_cons_zero, List.set_cons_succ]
        refine wpAnyH_take (i := 10) (v := ?_) (by simp only [List.getElem?_toArray, List.getElem?_cons_succ, List.getElem?_cons_zero]; rfl) (by kernel_rfl) (by kernel_rfl) (by kernel_rfl) (fun _ _ _ h => h) (Or.inl ⟨by rfl, ?_⟩) (by assumption) ?_
        rotate_left
        · intro w hSw
          try dsimp only at hSw
          go_simp
          try with_reducible rfl
        try simp only [Act.put, List.setIfInBounds_toArray, List.set_cons_zero, List.set_cons_succ]
        refine wpAnyH_take (i := 11) (v := ?_) (by simp only [List.getElem?_toArray, List.getElem?_cons_succ, List.getElem?_cons_zero]; rfl) (by kernel_rfl) (by kernel_rfl) (by kernel_rfl) (fun _ _ _ h => h) (Or.inl ⟨by rfl, ?_⟩) (by assumption) ?_
        rotate_left
        · intro w hSw
          try dsimp only at hSw
          go_simp
          try with_reducible rfl
        try simp only [Act.put, List.setIfInBounds_toArray, List.set_cons_zero, List.set_cons_succ]
        refine wpAnyH_take (i := 12) (v := ?_) (by simp only [List.getElem?_toArray, List.getElem?_cons_succ, List.getElem?_cons_zero]; rfl) (by kernel_rfl) (by kernel_rfl) (by kernel_rfl) (fun _ _ _ h => h) (Or.inl ⟨by rfl, ?_⟩) (by assumption) ?_
        rotate_left
        · intro w hSw
          try dsimp only at hSw
          go_simp
          try with_reducible rfl
        try simp only [Act.put, List.setIfInBounds_toArray, List.set_cons_zero, List.set_cons_succ]
        refine wpAnyH_take (i := 13) (v := ?_) (by simp only [List.getElem?_toArray, List.getElem?_cons_succ, List.getElem?_cons_zero]; rfl) (by kernel_rfl) (by kernel_rfl) (by kernel_rfl) (fun _ _ _ h => h) (Or.inl ⟨by rfl, ?_⟩) (by assumption) ?_
        rotate_left
        · intro w hSw
          try dsimp only at hSw
          go_simp
          try with_reducible rfl
        try simp only [Act.put, List.setIfInBounds_toArray, List.set_cons_zero, List.set_cons_succ]
        refine wpAnyH_done (by kernel_rfl) ?_ _
        refine NoPanic.normal ?_
        clear c0 c1
        by_cases hsk : hb = false ∧ t = 0
        case' pos =>
          obtain ⟨rfl, rfl⟩ := hsk
          have HA2 : Hid (cutS s nm (rcs E) ((0 : Nat) : Int) = (0, s, (rcs E).take k)) := Lib.hid (by
            have h0 : trS s nm ((0 : Nat) : Int) = (0, s) := by unfold trS; rw [if_pos ⟨rfl, HHB.out.symm⟩]
            rw [HA.out, h0]; rfl)
          have HL1 := Lib.hid (HL.out.kb B1.out)
          have c2 := HL1.out.c2
          have z2 := HL1.out.fz 2
          have hsl := fun W => xslice_run HL.out.rows HN.out hk W
          go_wp2_with fail
          go_ret
          refine ⟨by rw [HA2.out]; rfl, ?_⟩
          rw [HA2.out]
          exact rcut_end (H.out.kb B1.out) HL1.out HN.out hk (Only.of_below B1.out) (fun j hj => .inl hj)
        case' neg =>
          have HTR : Hid (trS s nm (t : Int) = s.truncate nm (t : Int)) := Lib.hid (by unfold trS; rw [if_neg (fun e => hsk ⟨HHB.out.trans e.2, by have := e.1; omega⟩)])
          obtain ⟨q1a, q1b⟩ := q1
          have hor : hb = false → (0 : Int) < (t : Int) := by
            intro e
            have : ¬ t = 0 := fun e2 => hsk ⟨e, e2⟩
            omega
          clear hsk
          cases hb
          case' false => have ht0 := hor rfl
          all_goals
            clear hor
            go_wp2_with fail
            try simp only [List.append]
            refine wp_region_noPanic ?_
            refine wp_region_held_drew (S := (fun W => W.cell? ⟨l, 0, none⟩ = some (.pointer (some ⟨r, 0, none⟩)) ∧ W.cell? ⟨l, 1, none⟩ = some (stv nm))) (by kernel_rfl) ⟨q1a, q1b⟩ (fun hHeld => ?_)
            refine wpAnyH_take (i := 0) (v := ?_) (by simp only [List.getElem?_toArray, List.getElem?_cons_zero]; rfl) (by kernel_rfl) (by kernel_rfl) (by kernel_rfl) (fun _ _ _ h => h) (Or.inl ⟨by rfl, ?_⟩) (by assumption) ?_
            rotate_left
            · intro w hSw
              try dsimp only at hSw
              go_simp
              try with_reducible rfl
            try simp only [Act.put, List.setIfInBounds_toArray, List.set_cons_zero, List.set_cons_succ]
            refine wpAnyH_take (i := 1) (v := ?_) (by simp only [List.getElem?_toArray, List.getElem?_cons_succ, List.getElem?_cons_zero]; rfl) (by kernel_rfl) (by kernel_rfl) (by kernel_rfl) (fun _ _ _ h => h) (Or.inl ⟨by rfl, ?_⟩) (by assumption) ?_
            rotate_left
            · intro w hSw
              try dsimp only at hSw
              go_simp
              try with_reducible rfl
            try simp only [Act.put, List.setIfInBounds_toArray, List.set_cons_zero, List.set_cons_succ]
            refine wpAnyH_take (i := 2) (v := ?_) (by simp only [List.getElem?_toArray, List.getElem?_cons_succ, List.getElem?_cons_zero]; rfl) (by kernel_rfl) (by kernel_rfl) (by kernel_rfl) (fun _ _ _ h => h) (Or.inl ⟨by rfl, ?_⟩) (by assumption) ?_
            rotate_left
            · intro w hSw
              try dsimp only at hSw
              go_simp
              try with_reducible rfl
            try simp only [Act.put, List.setIfInBounds_toArray, List.set_cons_zero, List.set_cons_succ]
            refine wpAnyH_take (i := 3) (v := ?_) (by simp only [List.getElem?_toArray, List.getElem?_cons_succ, List.getElem?_cons_zero]; rfl) (by kernel_rfl) (by kernel_rfl) (by kernel_rfl) (fun _ _ _ h => h) (Or.inl ⟨by rfl, ?_⟩) (by assumption) ?_
            rotate_left
            · intro w hSw
              try dsimp only at hSw
              go_simp
              try with_reducible rfl
            try simp only [Act.put, List.setIfInBounds_toArray, List.set_cons_zero, List.set_cons_succ]
            refine wpAnyH_take (i := 4) (v := ?_) (by simp only [List.getElem?_toArray, List.getElem?_cons_succ, List.getElem?_cons_zero]; rfl) (by kernel_rfl) (by kernel_rfl) (by kernel_rfl) (fun _ _ _ h => h) (Or.inl ⟨by rfl, ?_⟩) (by assumption) ?_
            rotate_left
            · intro w hSw
              try dsimp only at hSw
              go_simp
              try with_reducible rfl
            try simp only [Act.put, List.setIfInBounds_toArray, List.set_cons_zero, List.set_cons_succ]
            refine wpAnyH_take (i := 5) (v := ?_) (by simp only [List.getElem?_toArray, List.getElem?_cons_succ, List.getElem?_cons_zero]; rfl) (by kernel_rfl) (by kernel_rfl) (by kernel_rfl) (fun _ _ _ h => h) (Or.inl ⟨by rfl, ?_⟩) (by assumption) ?_
            rotate_left
            · intro w hSw
              try dsimp only at hSw
              go_simp
              try with_reducible rfl
            try simp only [Act.put, List.setIfInBounds_toArray, List.set_cons_zero, List.set_cons_succ]
            refine wpAnyH_take (i := 6) (v := ?_) (by simp only [List.getElem?_toArray, List.getElem?_cons_succ, List.getElem?_cons_zero]; rfl) (by kernel_rfl) (by kernel_rfl) (by kernel_rfl) (fun _ _ _ h => h) (Or.inl ⟨by rfl, ?_⟩) (by assumption) ?_
            rotate_left
            · intro w hSw
              try dsimp only at hSw
              go_simp
              try with_reducible rfl
            try simp only [Act.put, List.setIfInBounds_toArray, List.set_cons_zero, List.set_cons_succ]
            refine wpAnyH_take (i := 7) (v := ?_) (by simp only [List.getElem?_toArray, List.getElem?_cons_succ, List.getElem?_cons_zero]; rfl) (by kernel_rfl) (by kernel_rfl) (by kernel_rfl) (fun _ _ _ h => h) (Or.inl ⟨by rfl, ?_⟩) (by assumption) ?_
            rotate_left
            · intro w hSw
              try dsimp only at hSw
              go_simp
              try with_reducible rfl
            try simp only [Act.put, List.setIfInBounds_toArray, List.set_cons_zero, List.set_cons_succ]
            refine wpAnyH_take (i := 8) (v := ?_) (by simp only [List.getElem?_toArray, List.getElem?_cons_succ, List.getElem?_cons_zero]; rfl) (by kernel_rfl) (by kernel_rfl) (by kernel_rfl) (fun _ _ _ h => h) (Or.inl ⟨by rfl, ?_⟩) (by assumption) ?_
            rotate_left
            · intro w hSw
              try dsimp only at hSw
              go_simp
              try with_reducible rfl
            try simp only [Act.put, List.setIfInBounds_toArray, List.set_cons_zero, List.set_cons_succ]
            refine wpAnyH_ready (rs := [9]) (by kernel_rfl) (by simp) ?_
            refine AllReadyH.cons (by simp only [List.getElem?_toArray, List.getElem?_cons_succ, List.getElem?_cons_zero]; rfl) (fun K hK => ?_) AllReadyH.nil
            go_simp
            have BD : Below w1.heap.size w1 w1.drew := below_dn (m := 1) (Below.refl _ w1)
            refine (rtruncate_to w1.drew B r A s nm (t : Int) ((H.out.kb B1.out).kb BD).1 HG.out HW.out HF.out HNM.out).mono ?_
            rintro e w2 ⟨rfl, hp2⟩
            obtain ⟨A2, d1, d2, d3, d4⟩ := ((H.out.kb B1.out).kb BD).disk2 ((HL.out.kb B1.out).kb BD) hp2
            have HP2 := Lib.hid d1
            have HL2 := Lib.hid d2
            have HO2 : Hid (Only (fun k => k = r) wr w2) := Lib.hid (((Only.of_below B1.out).trans (S := fun k => k = r) (Only.of_below BD (S := fun k => k = r)) (fun _ h => h) (fun _ _ h => h)).trans d3 (fun _ h => h) (fun _ _ h => h))
            have HA2 : Hid (∀ j, A2 j → A j ∨ wr.heap.size ≤ j) := Lib.hid (fun j hj => (d4 j hj).imp id (fun e => Nat.le_trans B1.out.size e))
            have q2 : w2.cell? ⟨l, 0, none⟩ = some (.pointer (some ⟨r, 0, none⟩)) ∧ w2.cell? ⟨l, 1, none⟩ = some (stv nm) := ⟨HL2.out.c0, HL2.out.c1⟩
            have y2 := HL2.out.c2
            have z2 := HL2.out.fz 2
            have hsl := fun W => xslice_run HL.out.rows HN.out hk W
            rw [HTR.out] at HA
            clear hp2 d1 d2 d3 d4 BD
            go_wp2_with fail
            refine hK.out _ _ q2 (fun hHeld => ?_)
            clear hK K
            try simp only [Act.put, List.setIfInBounds_toArray, List.set_cons_zero, List.set_cons_succ]
            refine wpAnyH_take (i := 10) (v := ?_) (by simp only [List.getElem?_toArray, List.getElem?_cons_succ, List.getElem?_cons_zero]; rfl) (by kernel_rfl) (by kernel_rfl) (by kernel_rfl) (fun _ _ _ h => h) (Or.inl ⟨by rfl, ?_⟩) (by assumption) ?_
            rotate_left
            · intro w hSw
              try dsimp only at hSw
              go_simp
              try with_reducible rfl
            try simp only [Act.put, List.setIfInBounds_toArray, List.set_cons_zero, List.set_cons_succ]
            refine wpAnyH_done (by kernel_rfl) ?_ _
            refine NoPanic.normal ?_
            obtain ⟨ar, har⟩ : ∃ z, z = s.truncate nm (t : Int) := ⟨_, rfl⟩
            rw [← har] at HA HP2 ⊢
            clear har
            by_cases he : ar.1 = 0
            · have HA1 : Hid (cutS s nm (rcs E) (t : Int) = (0, ar.2, (rcs E).take k)) := Lib.hid (by rw [HA.out, if_pos he])
              rw [he]
              clear he
              go_wp2_with fail
              go_ret
              refine ⟨by rw [HA1.out]; rfl, ?_⟩
              rw [HA1.out]
              exact rcut_end HP2.out HL2.out HN.out hk HO2.out HA2.out
            · have HA1 : Hid (cutS s nm (rcs E) (t : Int) = (ar.1, ar.2, rcs E)) := Lib.hid (by rw [HA.out, if_neg he])
              go_wp2_with fail
              go_ret
              exact ⟨by rw [HA1.out]; rfl, by rw [HA1.out]; exact ⟨A2, HP2.out, HO2.out.mono (fun _ _ e => .inl e), HA2.out⟩⟩
theorem XAt.own2 {w : World} {A : Nat → Prop} {v : Value} {E : List Re} {B : Nat} (h : w.ownsRow B 65 2 v E.length (xrows E)) (hA : ∀ k, v.ownBlock = some k → A k) (hb : ∀ e ∈ E, BAt w A e.1 e.2.2) : XAt w A v E := by
  refine ⟨?_, hb⟩
  rcases h.2 with ⟨h1, h2⟩ | ⟨g, cap', cur, h1, _, _, h3, _⟩
  · exact .inl ⟨h1, List.length_eq_zero_iff.1 h2⟩
  · subst h1
    refine .inr ⟨g, 0, cap', rfl, h3, fun _ => hA _ rfl, fun j u hj => ?_⟩
    have := h.cells (g := g) rfl j u hj
    rwa [Addr.add_lit] at this
/-- What holds while OpenLog reads. -/
structure OL (w1 W : World) (lb r : Nat) (A : Nat → Prop) (nm : Key) (vl : Value) (E : List Re) (l : List Int) (nn m : Nat) : Prop where
  obj : W.heap[lb]? = some (.cells #[.pointer (some ⟨r, 0, none⟩), stv nm, vl] 63 (0, 0))
  own : W.ownsRow w1.heap.size 65 2 vl E.length (xrows E)
  bod : ∀ e ∈ E, BAt W A e.1 e.2.2
  only : Only (fun k => k = lb) w1 W
  lbl : lb < w1.heap.size
  alo : ∀ k, A k → w1.heap.size ≤ k ∧ k < W.heap.size
  vout : ∀ k, vl.ownBlock = some k → ¬ A k
  pos : m = ends (rcs E)
  le : m ≤ nn
  dec : dec (l.take nn) = (rcs E ++ (dec ((l.take nn).drop m)).1, (dec ((l.take nn).drop m)).2)
  rok : ∀ e ∈ E, Rok e.2
section
variable {w1 W W2 W3 : World} {lb r : Nat} {A : Nat → Prop} {nm : Key} {vl v3 u : Value} {E : List Re} {l xs : List Int} {nn m : Nat} {k : Int}
theorem OL.lb_lt (h : OL w1 W lb r A nm vl E l nn m) : lb < W.heap.size := (Array.getElem?_eq_some_iff.1 h.obj).1
theorem OL.c2 (h : OL w1 W lb r A nm vl E l nn m) : W.cell? ⟨lb, 2, none⟩ = some vl := by rw [cell_of_row W _ 2 _ _ _ h.obj]; rfl
theorem OL.snoc (h : OL w1 W lb r A nm vl E l nn m) (b2 : Below W.heap.size W W2) (hu : SeenR W2 u xs) (hub : ∀ j, u.ownBlock = some j → W.heap.size ≤ j) (ob : Obj) (gg cc : Nat) (hv3 : v3 = .slice (some ⟨gg, 0, none⟩) (E.length + 1) cc)
    (own3 : W3.ownsRow w1.heap.size 65 2 v3 (E.length + 1) (xrows E ++ [.int .i64 k, u])) (hgr : (W2.alloc ob).grownBy W3 vl.ownBlock) (hat : vl.ownBlock = some gg ∨ gg = W2.heap.size + 1)
    (ok : Okb ((l.take nn).drop m)) (hml : m < (l.take nn).length) (hx : nxt ((l.take nn).drop m) = (k, xs, 9 + (xs.length : Int), 0)) (hr : Rok (k, xs)) (hle : m + (9 + xs.length) ≤ nn) :
    OL w1 (W3.setCell ⟨lb, 2, none⟩ v3) lb r (fun j => A j ∨ (W.heap.size ≤ j ∧ j < W2.heap.size)) nm v3 (E ++ [(u, k, xs)]) l nn (m + (9 + xs.length)) := by
  have s0 := b2.size
  have s1 : (W2.alloc ob).heap.size = W2.heap.size + 1 := by simp
  have s2 := hgr.size
  have hl1 := h.lbl
  have hl2 := h.lb_lt
  have hw1 := h.only.size
  have hne : ∀ j, vl.ownBlock = some j → j ≠ lb := fun j hj e => by have := (h.own.lt j hj).1; omega
  have o3 : Only (fun j => vl.ownBlock = some j) W W3 := ((Only.of_below b2 (S := fun j => vl.ownBlock = some j)).alloc ob).grown hgr (fun j _ e => e)
  have os : Only (fun j => j = lb) W3 (W3.setCell ⟨lb, 2, none⟩ v3) := (Only.refl _ W3).one (S := fun j => j = lb) rfl _
  have o4 : Only (fun j => vl.ownBlock = some j ∨ j = lb) W (W3.setCell ⟨lb, 2, none⟩ v3) := (o3.mono (T := fun j => vl.ownBlock = some j ∨ j = lb) (fun _ _ e => .inl e)).trans os (fun _ h => h) (fun _ _ e => .inr e)
  have hobj3 : W3.heap[lb]? = some (.cells #[.pointer (some ⟨r, 0, none⟩), stv nm, vl] 63 (0, 0)) := (o3.block lb hl2 (fun e => hne lb e rfl)).trans h.obj
  have hl3 : lb < W3.heap.size := (Array.getElem?_eq_some_iff.1 hobj3).1
  have hg3 : v3.ownBlock = some gg := by rw [hv3]; rfl
  have hgl := own3.lt gg hg3
  refine { obj := ?_, own := ?_, bod := ?_, only := ?_, lbl := h.lbl, alo := ?_, vout := ?_, pos := ?_, le := hle, dec := ?_, rok := ?_ }
  · have := Lib.heap_setCell_same (i := 2) hobj3 v3
    rw [this]; rfl
  · refine own_kept (S := fun j => j = lb) ?_ os (fun j hj e => by have := (own3.lt j hj).1; omega)
    rw [List.length_append, xrows_app, xrows_one]
    exact own3
  · intro e he
    rcases List.mem_append.1 he with he | he
    · refine ((h.bod e he).kept o4 (fun j hj e => ?_)).mono (fun j hj => .inl hj)
      rcases e with e | e
      · exact h.vout j e hj
      · have := (h.alo j hj).1; omega
    · rw [List.mem_singleton.1 he]
      have hb : BAt W2 (fun j => W.heap.size ≤ j) u xs := ⟨hu, fun _ j hj => hub j hj⟩
      have hb2 : BAt W2 (fun j => W.heap.size ≤ j ∧ j < W2.heap.size) u xs := hb.tight
      have o5 : Only (fun j => vl.ownBlock = some j ∨ j = lb) W2 (W3.setCell ⟨lb, 2, none⟩ v3) := ((((Only.refl (fun j => vl.ownBlock = some j) W2).alloc ob).grown hgr (fun j _ e => e)).mono (T := fun j => vl.ownBlock = some j ∨ j = lb) (fun _ _ e => .inl e)).trans os (fun _ h => h) (fun _ _ e => .inr e)
      refine (hb2.kept o5 (fun j hj e => ?_)).mono (fun j hj => .inr hj)
      rcases e with e | e
      · have := (h.own.lt j e).2; omega
      · omega
  · exact (h.only.trans o4 (fun _ h => h) (fun j hj e => e.elim (fun e => by have := (h.own.lt j e).1; omega) id))
  · intro j hj
    have hsz : (W3.setCell ⟨lb, 2, none⟩ v3).heap.size = W3.heap.size := by simp [World.setCell]
    rw [hsz]
    rcases hj with hj | hj
    · have := h.alo j hj; exact ⟨this.1, by omega⟩
    · exact ⟨by omega, by omega⟩
  · intro j hj e
    rw [hg3] at hj
    cases hj
    rcases hat with ha | ha
    · rcases e with e | e
      · exact h.vout gg ha e
      · have := (h.own.lt gg ha).2; omega
    · rcases e with e | e
      · have := (h.alo gg e).2; omega
      · omega
  · rw [rcs_app, ends_app, h.pos]; simp [rcs, ends]
  · rw [h.dec, dec_step ok hml hx, rcs_app]
    simp [rcs]
  · intro e he
    rcases List.mem_append.1 he with he | he
    · exact h.rok e he
    · rw [List.mem_singleton.1 he]; exact hr
end
def ROpen (w : World) (B r : Nat) (A : Nat → Prop) (nm : Key) (q : Int × St × List Rc) (e : Ending) (w' : World) : Prop :=
  if q.1 = 0 then ∃ l A', e = .returned (.tuple #[.pointer (some ⟨l, 0, none⟩), .int .i64 0]) ∧ RLS w' B r l A' q.2.1 nm q.2.2 ∧ Only (fun k => k = r) w w' ∧ (∀ k, A' k → A k ∨ w.heap.size ≤ k) ∧ w.heap.size ≤ l
  else e = .returned (.tuple #[.pointer none, .int .i64 q.1]) ∧ RPost w B r A q.2.1 w'
theorem OL.rls {w w1 W : World} {B lb r : Nat} {A0 A : Nat → Prop} {s : St} {nm : Key} {vl : Value} {E : List Re} {l : List Int} {nn m : Nat} (h : OL w1 W lb r A nm vl E l nn m) (hr : RS w B r A0 s) (hlb : w.heap.size ≤ lb) (b1 : Below w.heap.size w w1) (hsm : ends (rcs E) ≤ 1000000000) :
    RLS W B r lb (fun j => A0 j ∨ (w.heap.size ≤ j ∧ j < W.heap.size ∧ j ≠ lb)) s nm (rcs E) ∧ Below w.heap.size w W := by
  have hl := hr.lts
  have bW : Below w.heap.size w W := b1.trans (h.only.below b1.size (fun k hk => by rw [hk]; exact hlb))
  have hw1 := b1.size
  refine ⟨⟨(hr.kb bW).monoA (fun j hj => .inl hj) (fun e => e.elim hl.2.2.2.1 (fun e => by omega)) (fun j hj => hj.elim (hl.2.2.1 j) (fun e => by omega)) (fun j hj => hj.elim (fun e => by have := hl.1 j e; have := bW.size; omega) (fun e => e.2.1)), vl, E, ?_, rfl⟩, bW⟩
  refine { obj := h.obj, rows := XAt.own2 h.own (fun j hj => .inr ?_) (fun e he => (h.bod e he).mono (fun j hj => .inr ?_)), nl := fun e => e.elim (fun e => by have := hl.1 lb e; omega) (fun e => e.2.2 rfl), lr := fun e => by omega, bb := by omega, rok := h.rok, small := hsm }
  · have h1 := h.own.lt j hj
    exact ⟨by omega, h1.2, fun e => by have := h.lbl; omega⟩
  · have h1 := h.alo j hj
    exact ⟨by omega, h1.2, fun e => by have := h.lbl; omega⟩
theorem bslice2_run (g o n cap m k : Nat) (hm : m < k) (hk : k ≤ cap) (W : World) : (Instr.slice 29 (.slice (some ⟨g, o, none⟩) n cap) (some (.int .i64 m)) (some (.int .i64 k)) none).run Tryz.prog W = .ok (.slice (some ⟨g, o + m, none⟩) (k - m) (cap - m)) W := by
  have h2 : (k : Int) ≤ (cap : Int) := by omega
  have h3 : (0 : Int) ≤ (m : Int) := by omega
  have h4 : (0 : Int) ≤ (k : Int) := by omega
  have h5 : ¬ cap = m := by omega
  have h6 : ¬ k < m := by omega
  simp [Instr.slice, run_underlying Tryz.underlying29, go_sem, h2, h3, h4, h5, h6]
theorem rd_ok {s : St} {nm : Key} (h : Okb (fbytes nm s.files)) : Okb (s.rd nm) := by
  unfold St.rd
  split
  · exact Okb.nil
  · exact h
theorem Good.rd_len {s : St} (h : Good s) (nm : Key) : (s.rd nm).length ≤ 16777216 := by
  unfold St.rd
  split
  · exact Nat.zero_le _
  · exact Nat.le_trans (fbytes_le nm s.files) h.last.tot
set_option maxRecDepth 20000 in
set_option maxHeartbeats 8000000 in
theorem ropen_to (w : World) (B r : Nat) (A : Nat → Prop) (s : St) (nm : Key) (n : Int) (h : RS w B r A s) (hg : Good s) (hw : s.works ≤ 900000) (hf : s.fuse < 9223372036854775808) (hn : nm.length ≤ 4611686018427387904) (ok : Okb (fbytes nm s.files)) :
    Calls Tryz.prog 28 #[.pointer (some ⟨r, 0, none⟩), stv nm, .int .i64 n] w (ROpen w B r A nm (openS s nm n)) := by
  have H := Lib.hid h
  by_cases hn0 : n < 0
  · have HO : Hid (openS s nm n = (1, s, [])) := Lib.hid (by unfold openS; rw [if_pos hn0])
    clear h hg ok
    go_enter Tryz.func28, Tryz.ntmps28
    go_wp2_with fail
    go_ret2
    unfold ROpen
    rw [HO.out, if_neg (by simp)]
    exact ⟨rfl, RPost.same H.out (Below.refl _ _)⟩
  obtain ⟨nn, rfl⟩ : ∃ nn : Nat, n = nn := ⟨n.toNat, by omega⟩
  have HG := Lib.hid hg
  have HW := Lib.hid hw
  have HF := Lib.hid hf
  have HNM := Lib.hid hn
  have HOK := Lib.hid (rd_ok ok)
  have hl := hg.rd_len nm
  have HRD0 := Lib.hid (fun e : s.has nm = false => has_rd (s := s) (nm := nm) e)
  obtain ⟨l, hle⟩ : ∃ l, l = s.rd nm := ⟨_, rfl⟩
  obtain ⟨hb, hhb⟩ : ∃ z, z = s.has nm := ⟨_, rfl⟩
  rw [← hle, ← hhb] at HRD0
  rw [← hle] at hl HOK
  have HO : Hid (openS s nm nn = if (l.length : Int) < nn then (3, s, []) else if ¬ (dec (l.take nn)).2 = 0 then ((dec (l.take nn)).2, s, []) else if (nn : Int) < l.length then (if (s.truncate nm nn).1 = 0 then (0, (s.truncate nm nn).2, (dec (l.take nn)).1) else ((s.truncate nm nn).1, (s.truncate nm nn).2, [])) else (0, s, (dec (l.take nn)).1)) := Lib.hid (by unfold openS; rw [if_neg hn0, ← hle, Int.toNat_natCast])
  have HLE := Lib.hid hle
  have HHB := Lib.hid hhb
  have HRW := Lib.hid (fun W (hW : Below w.heap.size w W) => rread_has W B r A s nm (h.kb hW) hg hw)
  clear h hg hw hf hn ok hn0 hle hhb
  go_enter Tryz.func28, Tryz.ntmps28
  go_wp2_with fail
  have B0 : Hid (Below w.heap.size w (w.alloc (.cells #[.pointer (some ⟨r, 0, none⟩), stv nm, .slice none 0 0] 63))) := Lib.hid ((Below.refl _ w).alloc (Nat.le_refl _) _)
  have X0 : Hid ((w.alloc (.cells #[.pointer (some ⟨r, 0, none⟩), stv nm, .slice none 0 0] 63)).heap[w.heap.size]? = some (.cells #[.pointer (some ⟨r, 0, none⟩), stv nm, .slice none 0 0] 63 (0, 0))) := Lib.hid (heap_alloc_last w _)
  generalize w.alloc (.cells #[.pointer (some ⟨r, 0, none⟩), stv nm, .slice none 0 0] 63) = W0 at *
  obtain ⟨lb, hlb⟩ : ∃ lb, lb = w.heap.size := ⟨_, rfl⟩
  have HLB := Lib.hid hlb
  rw [← hlb] at X0 ⊢
  clear hlb
  refine (HRW.out W0 B0.out).mono ?_
  rw [← HLE.out, ← HHB.out]
  rintro e w1 ⟨p, cap, rfl, hbt, b1⟩
  have B1 : Hid (Below w.heap.size w w1) := Lib.hid (B0.out.trans (b1.mono B0.out.size))
  have HBT := Lib.hid hbt.seenr
  have hfm := hbt.form
  have HXB : Hid (l ≠ [] → ∀ k, (Value.slice p l.length cap).ownBlock = some k → k ≠ lb ∧ k < w1.heap.size) := Lib.hid (fun hne k hk => by
    have h1 := hbt.tight.blk hne k hk
    have h2 := b1.size
    have h3 := (Array.getElem?_eq_some_iff.1 X0.out).1
    refine ⟨fun e => ?_, h1.2⟩
    rcases h1.1 with h4 | h4
    · have := H.out.lts.1 k h4; have := HLB.out; omega
    · omega)
  have X1 : Hid (w1.heap[lb]? = some (.cells #[.pointer (some ⟨r, 0, none⟩), stv nm, .slice none 0 0] 63 (0, 0))) := Lib.hid ((b1.block _ (Array.getElem?_eq_some_iff.1 X0.out).1).trans X0.out)
  have OL0 : Hid (OL w1 w1 lb r (fun _ => False) nm (.slice none 0 0) [] l nn 0) := Lib.hid { obj := X1.out, own := World.ownsRow_nil _ _ _ _, bod := (fun e he => by cases he), only := Only.refl _ _, lbl := (Array.getElem?_eq_some_iff.1 X1.out).1, alo := fun _ h => h.elim, vout := fun _ _ h => h, pos := rfl, le := Nat.zero_le _, dec := (by simp [rcs]), rok := (fun e he => by cases he) }
  clear hbt b1 HRW X0 B0
  cases hb
  case' false =>
    obtain rfl := HRD0.out rfl
    by_cases hnn : 0 < nn
    case' pos =>
      have HO1 : Hid (openS s nm nn = (3, s, [])) := Lib.hid (by rw [HO.out, if_pos (by simp; omega)])
      go_wp2_with fail
      go_ret2
      unfold ROpen
      rw [HO1.out, if_neg (by simp)]
      exact ⟨rfl, RPost.same H.out B1.out⟩
    case' neg =>
      have hnn0 : nn = 0 := by omega
      subst hnn0
      have HO1 : Hid (openS s nm ((0 : Nat) : Int) = (0, s, [])) := Lib.hid (by rw [HO.out, if_neg (by simp), List.take_nil, dec_nil, if_neg (by simp), if_neg (by simp)])
      go_wp2_with fail
      go_ret2
      unfold ROpen
      rw [HO1.out, if_pos rfl]
      have hx := OL0.out.rls H.out (Nat.le_of_eq HLB.out.symm) B1.out (by simp [rcs, ends])
      exact ⟨lb, _, rfl, hx.1, Only.of_below hx.2, fun k hk => hk.imp id (fun e => e.1), Nat.le_of_eq HLB.out.symm⟩
  case' true =>
    by_cases hsh : (l.length : Int) < nn
    case' pos =>
      have HO1 : Hid (openS s nm nn = (3, s, [])) := Lib.hid (by rw [HO.out, if_pos hsh])
      go_wp2_with fail
      go_ret2
      unfold ROpen
      rw [HO1.out, if_neg (by simp)]
      exact ⟨rfl, RPost.same H.out B1.out⟩
    case' neg =>
      have HO1 : Hid (openS s nm nn = if ¬ (dec (l.take nn)).2 = 0 then ((dec (l.take nn)).2, s, []) else if (nn : Int) < l.length then (if (s.truncate nm nn).1 = 0 then (0, (s.truncate nm nn).2, (dec (l.take nn)).1) else ((s.truncate nm nn).1, (s.truncate nm nn).2, [])) else (0, s, (dec (l.take nn)).1)) := Lib.hid (by rw [HO.out, if_neg hsh])
      have hnl : nn ≤ l.length := by omega
      have HNL := Lib.hid hnl
      have HLT : Hid ((l.take nn).length = nn) := Lib.hid (by rw [List.length_take]; omega)
      obtain ⟨ln, hln⟩ : ∃ ln, ln = l.length := ⟨_, rfl⟩
      have HLN := Lib.hid hln
      rw [← hln] at hsh hl hnl hfm HBT ⊢
      clear hln HO
      have hsh' : ¬ ln < nn := by omega
      have hsd : decide (ln < nn) = false := by simpa using hsh'
      go_wp2_with fail
      go_loopw [11] (fun a wr => ∃ (m : Nat) (A' : Nat → Prop) (vl : Value) (E : List Re), m ≤ nn ∧ a = .int .i64 m ∧ Hid (OL w1 wr lb r A' nm vl E l nn m)) (fun a _ => nn - (intOf a).toNat)
      case atStart => exact ⟨0, _, _, _, Nat.zero_le _, rfl, OL0⟩
      case round =>
        obtain ⟨m, A', vl, E, hm, rfl, HL⟩ := hrel
        have HXR := Lib.hid (fun hs => HL.out.rls H.out (Nat.le_of_eq HLB.out.symm) B1.out hs)
        have HSM : Hid (ends (rcs E) ≤ 1000000000) := Lib.hid (by rw [← HL.out.pos]; omega)
        by_cases hlt : m < nn
        · obtain ⟨g, o, rfl⟩ : ∃ g o, p = some ⟨g, o, none⟩ := by
            rcases HBT.out with ⟨h1, h2⟩ | ⟨g, o, cap', h1, _⟩
            · simp at h1; have := h1.2.1; omega
            · simp at h1; exact ⟨g, o, h1.1⟩
          have hsl := fun W => bslice2_run g o ln cap m nn hlt (Nat.le_trans hnl hfm.1) W
          have HSB : Hid (SeenR wr (.slice (some ⟨g, o + m, none⟩) (nn - m) (cap - m)) ((l.take nn).drop m)) := Lib.hid (by
            have h1 : SeenR w1 (.slice (some ⟨g, o, none⟩) l.length cap) l := by rw [← HLN.out]; exact HBT.out
            have h2 := seen_len h1 nn cap HNL.out (Nat.le_trans hnl hfm.1)
            have h3 : SeenR w1 (.slice (some ⟨g, o, none⟩) (l.take nn).length cap) (l.take nn) := by rw [HLT.out]; exact h2
            have h4 := seenr_drop h3 m (by rw [HLT.out]; omega)
            rw [HLT.out] at h4
            have hX := HXB.out (fun e => by rw [e] at HLN; have := HLN.out; simp at this; omega)
            exact h4.kept (fun k hk => HL.out.only.block k (hX k hk).2 (hX k hk).1))
          have HOKD : Hid (Okb ((l.take nn).drop m)) := Lib.hid ((HOK.out.take nn).drop m)
          have HDL : Hid (((l.take nn).drop m).length = nn - m) := Lib.hid (by rw [List.length_drop, HLT.out])
          obtain ⟨kk, xs, sz, c, hx⟩ : ∃ kk xs sz c, nxt ((l.take nn).drop m) = (kk, xs, sz, c) := ⟨_, _, _, _, rfl⟩
          have HX := Lib.hid hx
          clear hx
          have HXN := Lib.hid (xnext_any wr _ _ HOKD.out (by rw [HDL.out]; omega) HSB.out)
          have hcl := own_form HL.out.own
          obtain ⟨q, cq, hq⟩ := hcl
          have c2 := HL.out.c2
          have hvl := HL.out.own
          have HVN : Hid (∀ j, vl.ownBlock = some j → j ≠ lb ∧ j < wr.heap.size) := Lib.hid (fun j hj => ⟨fun e => by have := (HL.out.own.lt j hj).1; have := HL.out.lbl; omega, (HL.out.own.lt j hj).2⟩)
          have HNE : Hid (E.length ≤ 200000000) := Lib.hid (by have h1 := ends_many (rcs E); have h2 := HL.out.pos; rw [rcs_len] at h1; omega)
          have HOW := Lib.hid hvl
          clear hvl
          go_wp2_with fail
          refine HXN.out.mono ?_
          rintro e w2 hp
          unfold XNextPost at hp
          rw [HX.out] at hp
          obtain ⟨u, rfl, hsu, hub, b2⟩ := hp
          obtain ⟨pu, cu, rfl⟩ := len_val hsu.seen
          have HSU : Hid (SeenR w2 (.slice pu xs.length cu) xs) := Lib.hid hsu
          have HUB := Lib.hid hub
          have B2 := Lib.hid b2
          have c22 := cell_kb c2 b2
          clear hsu hub b2 HXN c2
          by_cases hc : c = 0
          · subst hc
            have hns := nxt_size HOKD.out (by rw [HX.out])
            rw [HX.out, HDL.out] at hns
            have hz9 : sz = 9 + (xs.length : Int) := hns.1
            have hzl : sz ≤ ((nn - m : Nat) : Int) := hns.2.1
            have HRK : Hid (Rok (kk, xs)) := Lib.hid hns.2.2
            have HX9 : Hid (nxt ((l.take nn).drop m) = (kk, xs, 9 + (xs.length : Int), 0)) := Lib.hid (by rw [HX.out, hz9])
            obtain ⟨i0, hi0, hz0, hz1, hz2⟩ := info_parts xinfo
            obtain ⟨z, hzz⟩ : ∃ z : Nat, z = m + (9 + xs.length) := ⟨_, rfl⟩
            have hzn : z ≤ nn := by omega
            have hza : (m : Int) + sz = (z : Int) := by omega
            have hzb : z ≤ 100000000 := by omega
            have HZZ := Lib.hid hzz
            clear hns hz9 hzl hzz HX
            have HXE : Hid (m < (l.take nn).length) := Lib.hid (by rw [HLT.out]; exact hlt)
            have HN9 : Hid (E.length + 1 ≤ maxLen ∧ (E.length + 1) * 32 ≤ 140737488355328) := Lib.hid (by have := HNE.out; unfold maxLen; omega)
            have HO2 : Hid (w2.ownsRow w1.heap.size 65 2 vl E.length (xrows E)) := Lib.hid (own_kb HOW.out B2.out)
            have HNW : Hid (∀ j v, ([.int .i64 kk, .slice pu xs.length cu] : List Value)[j]? = some v → (w2.alloc (.cells #[.int .i64 kk, .slice pu xs.length cu] 65)).cell? ((⟨w2.heap.size, 0, none⟩ : Addr).add j) = some v) := Lib.hid (World.news_of_block (cs := #[.int .i64 kk, .slice pu xs.length cu]) (t := 65) (fr := (0, 0)) (heap_alloc_new w2 _))
            have HBS : Hid (w1.heap.size ≤ (w2.alloc (.cells #[.int .i64 kk, .slice pu xs.length cu] 65)).heap.size) := Lib.hid (by have h1 := HL.out.only.size; have h2 := B2.out.size; simp; omega)
            have HSZ : Hid ((w2.alloc (.cells #[.int .i64 kk, .slice pu xs.length cu] 65)).heap.size = w2.heap.size + 1) := Lib.hid (by simp)
            obtain ⟨el, hel⟩ : ∃ el, el = E.length := ⟨_, rfl⟩
            have HEL := Lib.hid hel
            rw [← hel] at hq HN9 HO2
            subst hq
            clear hel
            go_wp2_with (at_builtin; refine wpList_append_lies _ (by rfl) (.tmp 58) (.tmp 62) _ (by rfl) w1.heap.size 65 i0 _ 2 32 Tryz.underlying61 hi0 hz0 hz1 hz2 rfl (by omega) (.slice q el cq) el (xrows E) (by rfl) (HO2.out.alloc _) ⟨w2.heap.size, 0, none⟩ 1 1 [.int .i64 kk, .slice pu xs.length cu] (by rfl) (by rfl) HNW.out (by simp [Value.oneCell']) (by decide) HN9.out.1 HN9.out.2 HBS.out (w2.heap.size + 1) (by simp) ?_; intro gg cc w5 own5 grow5 hat5 hlt5; have O5 : Hid (w5.ownsRow w1.heap.size 65 2 (.slice (some ⟨gg, 0, none⟩) (el + 1) cc) (el + 1) (xrows E ++ [.int .i64 kk, .slice pu xs.length cu])) := Lib.hid own5; have HG5 := Lib.hid grow5; have HA5 := Lib.hid hat5; have hb5 : w5.heap[lb]? = some (.cells #[.pointer (some ⟨r, 0, none⟩), stv nm, .slice q el cq] 63 (0, 0)) := (grow5.block lb (by have h1 := HL.out.lb_lt; have h2 := B2.out.size; simp; omega) (by intro e; exact (HVN.out lb e.symm).1 rfl)).trans ((Below.heap_alloc w2 _ _ (by have h1 := HL.out.lb_lt; have h2 := B2.out.size; omega)).trans ((B2.out.block lb HL.out.lb_lt).trans HL.out.obj)); have y5 : w5.cell? ⟨lb, 2, none⟩ = some (.slice q el cq) := (by rw [cell_of_row w5 lb 2 _ _ _ hb5]; rfl); have f5 : w5.frozen? ⟨lb, 2, none⟩ = false := (by simp [World.frozen?, hb5]); clear own5 grow5 hat5 hlt5 hb5)
            have HOLN := Lib.hid (HL.out.snoc B2.out HSU.out HUB.out _ gg cc (by rw [← HEL.out]) (by rw [← HEL.out]; exact O5.out) HG5.out HA5.out HOKD.out HXE.out HX9.out HRK.out (by rw [← HZZ.out]; exact hzn))
            rw [← HZZ.out] at HOLN
            exact ⟨⟨z, _, _, _, hzn, by first | rfl | simp, HOLN⟩, by simp [intOf]; have := HZZ.out; omega⟩
          · have HO2 : Hid (openS s nm nn = (c, s, [])) := Lib.hid (by
              have h1 := HL.out.dec
              have h2 : dec ((l.take nn).drop m) = ([], c) := by
                rw [dec_bad (by intro e; have := HDL.out; rw [e] at this; simp at this; omega) (by rw [HX.out]; exact hc), HX.out]
              rw [h2] at h1
              rw [HO1.out, h1]
              simp only
              rw [if_pos hc])
            have HC := Lib.hid hc
            subst hq
            go_wp2_with fail
            go_ret2
            unfold ROpen
            rw [HO2.out, if_neg HC.out]
            exact ⟨rfl, RPost.same H.out ((HXR.out HSM.out).2.trans (B2.out.mono (HXR.out HSM.out).2.size))⟩
        · obtain rfl : m = nn := by omega
          have HD : Hid (dec (l.take m) = (rcs E, 0)) := Lib.hid (by
            rw [HL.out.dec, List.drop_of_length_le (by rw [HLT.out]; exact Nat.le_refl _), dec_nil, List.append_nil])
          have hrls := (HXR.out HSM.out)
          have HR := Lib.hid hrls.1
          have HB := Lib.hid hrls.2
          clear hrls
          by_cases htr : m < ln
          · have HO2 : Hid (openS s nm m = if (s.truncate nm m).1 = 0 then (0, (s.truncate nm m).2, rcs E) else ((s.truncate nm m).1, (s.truncate nm m).2, [])) := Lib.hid (by rw [HO1.out, HD.out, if_neg (by simp), if_pos (by rw [← HLN.out]; omega)])
            go_wp2_with fail
            refine (rtruncate_to wr B r _ s nm (m : Int) HR.out.1 HG.out HW.out HF.out HNM.out).mono ?_
            rintro e w3 ⟨rfl, hp3⟩
            obtain ⟨A3, d1, d2, d3, _⟩ := HR.out.disk hp3
            have HD1 := Lib.hid d1
            have HO3 : Hid (Only (fun k => k = r) w w3) := Lib.hid ((Only.of_below HB.out).trans (S := fun k => k = r) d2 (fun _ h => h) (fun _ _ h => h))
            have HA3 : Hid (∀ k, A3 k → A k ∨ w.heap.size ≤ k) := Lib.hid (fun k hk => (d3 k hk).elim (fun e => e.imp id (fun e => e.1)) (fun e => .inr (Nat.le_trans HB.out.size e)))
            clear hp3 d1 d2 d3
            obtain ⟨ar, har⟩ : ∃ z, z = s.truncate nm (m : Int) := ⟨_, rfl⟩
            rw [← har] at HO2 HD1 ⊢
            clear har
            by_cases he : ar.1 = 0
            · have HO4 : Hid (openS s nm m = (0, ar.2, rcs E)) := Lib.hid (by rw [HO2.out, if_pos he])
              rw [he]
              clear he
              go_wp2_with fail
              go_ret2
              unfold ROpen
              rw [HO4.out, if_pos rfl]
              exact ⟨lb, A3, rfl, HD1.out, HO3.out, HA3.out, Nat.le_of_eq HLB.out.symm⟩
            · have HO4 : Hid (openS s nm m = (ar.1, ar.2, [])) := Lib.hid (by rw [HO2.out, if_neg he])
              have HE := Lib.hid he
              go_wp2_with fail
              go_ret2
              unfold ROpen
              rw [HO4.out, if_neg HE.out]
              exact ⟨rfl, A3, HD1.out.1, HO3.out, HA3.out⟩
          · have HO2 : Hid (openS s nm m = (0, s, rcs E)) := Lib.hid (by rw [HO1.out, HD.out, if_neg (by simp), if_neg (by rw [← HLN.out]; omega)])
            go_wp2_with fail
            go_ret2
            unfold ROpen
            rw [HO2.out, if_pos rfl]
            exact ⟨lb, _, rfl, HR.out, Only.of_below HB.out, fun k hk => hk.imp id (fun e => e.1), Nat.le_of_eq HLB.out.symm⟩
end Go.Proofs.YtageblggakfbdaaGreatDoor
