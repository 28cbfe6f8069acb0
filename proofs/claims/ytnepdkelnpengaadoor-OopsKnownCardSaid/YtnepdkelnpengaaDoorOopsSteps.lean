/- Steps over a chain: the names of its steps, the outermost one first, in new memory. Condition: at most 131072 layers. -/
import Derived.Test.YtnepdkelnpengaaDoorOopsFirst
namespace Go.Proofs.YtnepdkelnpengaaDoor
open Go.RowKit Go.Extern.Stop Go.Stop Go.Extern

/-- Texts as values. -/
abbrev strs (l : List ByteArray) : List Value := l.map Value.string
def nm : Lnk → List ByteArray
  | .step _ s => [s]
  | _ => []
/-- The names of the steps of the chain. -/
def names : List Lnk → List ByteArray
  | [] => []
  | l :: L => nm l ++ names L
theorem names_length : ∀ L : List Lnk, (names L).length ≤ L.length
  | [] => Nat.le_refl _
  | l :: L => by
    have := names_length L
    cases l <;> simp [names, nm] <;> omega

theorem strinfo : (Tryd.prog.info? 9).map (fun i => (i.zero, i.size, i.bytes)) = some (some (.string ⟨#[]⟩), 1, 16) := by kernel_rfl

theorem taS (x : Value) (w : World) : (Instr.typeAssert (.iface 54 x) 25 54 true).run Tryd.prog w = .ok (.tuple #[x, .bool true]) w := by kernel_rfl
set_option maxRecDepth 20000 in
theorem app_step (w : World) (B : Nat) (v : Value) (xs : List ByteArray) (s : ByteArray) (u : Value) (p : Nat) (hown : w.ownsRow B 9 1 v xs.length (strs xs)) (hB : B ≤ w.heap.size) (hn : xs.length ≤ 131072)
    (hp : w.heap[p]? = some (.cells #[.string s, u] 59 (0, 0))) :
    Calls Tryd.prog 29 #[v, .iface 54 (.pointer (some ⟨p, 0, none⟩))] w fun e w' => ∃ v', e = .returned v' ∧ w'.ownsRow B 9 1 v' (xs ++ [s]).length (strs (xs ++ [s])) ∧
      Only (fun k => v.ownBlock = some k) w w' ∧ (v'.ownBlock = v.ownBlock ∨ ∃ g, v'.ownBlock = some g ∧ w.heap.size ≤ g) := by
  obtain ⟨i0, hi0, hz⟩ := Option.map_eq_some_iff.1 strinfo
  obtain ⟨hz0, hz1, hz2⟩ : i0.zero = some (.string ⟨#[]⟩) ∧ i0.size = 1 ∧ i0.bytes = 16 := by simp only [Prod.mk.injEq] at hz; exact hz
  have hc := cell_obj hp 0 (u := .string s) rfl
  have h := taS
  clear hz hp
  go_enter Tryd.func29, Tryd.ntmps29
  go_wp2_with (at_builtin; go_loud (refine wpList_append_lies _ (by rfl) (.tmp 13) (.tmp 18) _ (by rfl) B 9 i0 _ 1 16 Tryd.underlying31 hi0 hz0 hz1 hz2 rfl (by omega) v xs.length (strs xs) (by rfl) (hown.alloc _) ⟨w.heap.size, 0, none⟩ 1 1 [_] (by rfl) (by rfl) (World.news_of_block (cs := #[_]) (t := 9) (fr := (0, 0)) (heap_alloc_new w _)) (by simp [Value.oneCell']) (by omega) (by simp [maxLen]; omega) (by omega) (by simp; omega) (w.heap.size + 1) (by simp) ?_); intro g cap w1 hown1 hgrow hat hlt1)
  go_ret
  refine ⟨_, rfl, by simpa using hown1, ?_, ?_⟩
  · exact ((Only.refl _ _).alloc _).grown hgrow (fun k _ h => h)
  · rcases hat with hat | hat
    · exact .inl hat.symm
    · exact .inr ⟨g, rfl, by omega⟩

theorem taP (x : Value) (w : World) : (Instr.typeAssert (.iface 55 x) 25 54 true).run Tryd.prog w = .ok (.tuple #[.pointer none, .bool false]) w := by kernel_rfl
theorem appP (w : World) (v x : Value) : Calls Tryd.prog 29 #[v, .iface 55 x] w fun e w' => e = .returned v ∧ w = w' := by
  have h := taP
  go_enter Tryd.func29, Tryd.ntmps29
  go_wp2
  go_ret
  exact ⟨rfl, rfl⟩
theorem taW (x : Value) (w : World) : (Instr.typeAssert (.iface 37 x) 25 54 true).run Tryd.prog w = .ok (.tuple #[.pointer none, .bool false]) w := by kernel_rfl
theorem appW (w : World) (v x : Value) : Calls Tryd.prog 29 #[v, .iface 37 x] w fun e w' => e = .returned v ∧ w = w' := by
  have h := taW
  go_enter Tryd.func29, Tryd.ntmps29
  go_wp2
  go_ret
  exact ⟨rfl, rfl⟩
theorem taE (x : Value) (w : World) : (Instr.typeAssert (.iface 29 x) 25 54 true).run Tryd.prog w = .ok (.tuple #[.pointer none, .bool false]) w := by kernel_rfl
theorem appE (w : World) (v x : Value) : Calls Tryd.prog 29 #[v, .iface 29 x] w fun e w' => e = .returned v ∧ w = w' := by
  have h := taE
  go_enter Tryd.func29, Tryd.ntmps29
  go_wp2
  go_ret
  exact ⟨rfl, rfl⟩
theorem taX (x : Value) (w : World) : (Instr.typeAssert (.iface 65 x) 25 54 true).run Tryd.prog w = .ok (.tuple #[.pointer none, .bool false]) w := by kernel_rfl
theorem appX (w : World) (v x : Value) : Calls Tryd.prog 29 #[v, .iface 65 x] w fun e w' => e = .returned v ∧ w = w' := by
  have h := taX
  go_enter Tryd.func29, Tryd.ntmps29
  go_wp2
  go_ret
  exact ⟨rfl, rfl⟩
theorem taN (x : Value) (w : World) : (Instr.typeAssert (.iface 88 x) 25 54 true).run Tryd.prog w = .ok (.tuple #[.pointer none, .bool false]) w := by kernel_rfl
theorem appN (w : World) (v x : Value) : Calls Tryd.prog 29 #[v, .iface 88 x] w fun e w' => e = .returned v ∧ w = w' := by
  have h := taN
  go_enter Tryd.func29, Tryd.ntmps29
  go_wp2
  go_ret
  exact ⟨rfl, rfl⟩

/-- The variable at block c holds the names xs, in memory of its own. -/
def Ws (B : Nat) (w : World) (c : Nat) (v : Value) (xs : List ByteArray) : Prop :=
  B ≤ c ∧ w.heap[c]? = some (.cells #[v] 31 (0, 0)) ∧ w.ownsRow B 9 1 v xs.length (strs xs)

theorem Ws.apart {B c : Nat} {w : World} {v : Value} {xs : List ByteArray} (h : Ws B w c v xs) : v.ownBlock ≠ some c := by
  intro he
  obtain ⟨_, h1, _, h2⟩ := h
  rcases h2 with ⟨rfl, _⟩ | ⟨g, cap, cur, rfl, _, hg, _⟩
  · simp [Value.ownBlock] at he
  · simp [Value.ownBlock] at he
    subst he
    rw [h1] at hg
    simp at hg

theorem visit_step (w : World) (B c : Nat) (v : Value) (xs : List ByteArray) (s : ByteArray) (u : Value) (p : Nat) (h : Ws B w c v xs) (hn : xs.length ≤ 131072) (hp : w.heap[p]? = some (.cells #[.string s, u] 59 (0, 0))) :
    Calls Tryd.prog 28 #[.iface 54 (.pointer (some ⟨p, 0, none⟩)), .pointer (some ⟨c, 0, none⟩)] w fun e w' => e = .returned (.tuple #[]) ∧ (∃ v', Ws B w' c v' (xs ++ [s])) ∧ Below B w w' := by
  have hlt := (Array.getElem?_eq_some_iff.1 h.2.1).1
  have hbase : B ≤ w.heap.size := Nat.le_trans h.1 (Nat.le_of_lt hlt)
  have HA := Lib.hid (app_step w B v xs s u p h.2.2 hbase hn hp)
  have hc := cell_obj h.2.1 0 (u := v) rfl
  have HW := Lib.hid h
  clear hp h hn
  go_enter Tryd.func28, Tryd.ntmps28
  go_wp2_with (go_at_call 29; refine HA.out.mono ?_; rintro e w' ⟨v', rfl, R1, R2, R3⟩; have r4 := (R2.block c hlt HW.out.apart).trans HW.out.2.1; have hc1 := cell_obj r4 0 (u := v) rfl; have hz1 := free_of_one r4
               have H1 := Lib.hid R1; have H2 := Lib.hid R2; have H3 := Lib.hid R3; have H4 := Lib.hid r4; have H5 : Hid (v'.oneCell' = true) := Lib.hid (by rcases R1.2 with ⟨rfl, _⟩ | ⟨_, _, _, rfl, _⟩ <;> rfl); obtain ⟨a1, n1, c1, rfl⟩ : ∃ a n c, v' = .slice a n c := (by rcases R1.2 with ⟨rfl, _⟩ | ⟨_, _, _, rfl, _⟩ <;> exact ⟨_, _, _, rfl⟩); clear R1 R2 R3 r4)
  go_end0
  refine ⟨rfl, ⟨_, HW.out.1, one_setCell H4.out, ?_⟩, ?_⟩
  · refine ⟨H1.out.1, ?_⟩
    rcases H1.out.2 with hh | ⟨g, cap, cur, he, hbg, hg, rest⟩
    · exact .inl hh
    · refine .inr ⟨g, cap, cur, he, hbg, ?_, rest⟩
      rw [Below.heap_setCell]
      · exact hg
      · intro e
        simp only at e
        subst e
        rw [H4.out] at hg
        simp at hg
  · exact (Only.setCell (S := fun k => B ≤ k) (H2.out.mono (fun k _ hk => (HW.out.2.2.lt k hk).1)) (p := ⟨c, 0, none⟩) HW.out.1 _).below hbase (fun _ h => h)

theorem visitP (w : World) (B c : Nat) (v : Value) (xs : List ByteArray) (x : Value) (h : Ws B w c v xs) :
    Calls Tryd.prog 28 #[.iface 55 x, .pointer (some ⟨c, 0, none⟩)] w fun e w' => e = .returned (.tuple #[]) ∧ (∃ v', Ws B w' c v' xs) ∧ Below B w w' := by
  have hlt := (Array.getElem?_eq_some_iff.1 h.2.1).1
  have hbase : B ≤ w.heap.size := Nat.le_trans h.1 (Nat.le_of_lt hlt)
  have hc := cell_obj h.2.1 0 (u := v) rfl
  have hz := free_of_one h.2.1
  have HW := Lib.hid h
  obtain ⟨a1, n1, c1, rfl⟩ : ∃ a n c, v = .slice a n c := (by rcases h.2.2.2 with ⟨rfl, _⟩ | ⟨_, _, _, rfl, _⟩ <;> exact ⟨_, _, _, rfl⟩)
  clear h
  go_enter Tryd.func28, Tryd.ntmps28
  go_wp2_with (go_at_call 29; refine (appP _ _ _).mono ?_; rintro e w' ⟨rfl, rfl⟩)
  go_end0
  refine ⟨rfl, ⟨_, HW.out.1, one_setCell HW.out.2.1, HW.out.2.2.1, ?_⟩, ?_⟩
  · rcases HW.out.2.2.2 with hh | ⟨g, cap, cur, he, hbg, hg, rest⟩
    · exact .inl hh
    · refine .inr ⟨g, cap, cur, he, hbg, ?_, rest⟩
      rw [Below.heap_setCell]
      · exact hg
      · intro e
        simp only at e
        subst e
        rw [HW.out.2.1] at hg
        simp at hg
  · exact (Only.setCell (S := fun k => B ≤ k) (Only.refl _ _) (p := ⟨c, 0, none⟩) HW.out.1 _).below hbase (fun _ h => h)
theorem visitW (w : World) (B c : Nat) (v : Value) (xs : List ByteArray) (x : Value) (h : Ws B w c v xs) :
    Calls Tryd.prog 28 #[.iface 37 x, .pointer (some ⟨c, 0, none⟩)] w fun e w' => e = .returned (.tuple #[]) ∧ (∃ v', Ws B w' c v' xs) ∧ Below B w w' := by
  have hlt := (Array.getElem?_eq_some_iff.1 h.2.1).1
  have hbase : B ≤ w.heap.size := Nat.le_trans h.1 (Nat.le_of_lt hlt)
  have hc := cell_obj h.2.1 0 (u := v) rfl
  have hz := free_of_one h.2.1
  have HW := Lib.hid h
  obtain ⟨a1, n1, c1, rfl⟩ : ∃ a n c, v = .slice a n c := (by rcases h.2.2.2 with ⟨rfl, _⟩ | ⟨_, _, _, rfl, _⟩ <;> exact ⟨_, _, _, rfl⟩)
  clear h
  go_enter Tryd.func28, Tryd.ntmps28
  go_wp2_with (go_at_call 29; refine (appW _ _ _).mono ?_; rintro e w' ⟨rfl, rfl⟩)
  go_end0
  refine ⟨rfl, ⟨_, HW.out.1, one_setCell HW.out.2.1, HW.out.2.2.1, ?_⟩, ?_⟩
  · rcases HW.out.2.2.2 with hh | ⟨g, cap, cur, he, hbg, hg, rest⟩
    · exact .inl hh
    · refine .inr ⟨g, cap, cur, he, hbg, ?_, rest⟩
      rw [Below.heap_setCell]
      · exact hg
      · intro e
        simp only at e
        subst e
        rw [HW.out.2.1] at hg
        simp at hg
  · exact (Only.setCell (S := fun k => B ≤ k) (Only.refl _ _) (p := ⟨c, 0, none⟩) HW.out.1 _).below hbase (fun _ h => h)
theorem visitE (w : World) (B c : Nat) (v : Value) (xs : List ByteArray) (x : Value) (h : Ws B w c v xs) :
    Calls Tryd.prog 28 #[.iface 29 x, .pointer (some ⟨c, 0, none⟩)] w fun e w' => e = .returned (.tuple #[]) ∧ (∃ v', Ws B w' c v' xs) ∧ Below B w w' := by
  have hlt := (Array.getElem?_eq_some_iff.1 h.2.1).1
  have hbase : B ≤ w.heap.size := Nat.le_trans h.1 (Nat.le_of_lt hlt)
  have hc := cell_obj h.2.1 0 (u := v) rfl
  have hz := free_of_one h.2.1
  have HW := Lib.hid h
  obtain ⟨a1, n1, c1, rfl⟩ : ∃ a n c, v = .slice a n c := (by rcases h.2.2.2 with ⟨rfl, _⟩ | ⟨_, _, _, rfl, _⟩ <;> exact ⟨_, _, _, rfl⟩)
  clear h
  go_enter Tryd.func28, Tryd.ntmps28
  go_wp2_with (go_at_call 29; refine (appE _ _ _).mono ?_; rintro e w' ⟨rfl, rfl⟩)
  go_end0
  refine ⟨rfl, ⟨_, HW.out.1, one_setCell HW.out.2.1, HW.out.2.2.1, ?_⟩, ?_⟩
  · rcases HW.out.2.2.2 with hh | ⟨g, cap, cur, he, hbg, hg, rest⟩
    · exact .inl hh
    · refine .inr ⟨g, cap, cur, he, hbg, ?_, rest⟩
      rw [Below.heap_setCell]
      · exact hg
      · intro e
        simp only at e
        subst e
        rw [HW.out.2.1] at hg
        simp at hg
  · exact (Only.setCell (S := fun k => B ≤ k) (Only.refl _ _) (p := ⟨c, 0, none⟩) HW.out.1 _).below hbase (fun _ h => h)
theorem visitX (w : World) (B c : Nat) (v : Value) (xs : List ByteArray) (x : Value) (h : Ws B w c v xs) :
    Calls Tryd.prog 28 #[.iface 65 x, .pointer (some ⟨c, 0, none⟩)] w fun e w' => e = .returned (.tuple #[]) ∧ (∃ v', Ws B w' c v' xs) ∧ Below B w w' := by
  have hlt := (Array.getElem?_eq_some_iff.1 h.2.1).1
  have hbase : B ≤ w.heap.size := Nat.le_trans h.1 (Nat.le_of_lt hlt)
  have hc := cell_obj h.2.1 0 (u := v) rfl
  have hz := free_of_one h.2.1
  have HW := Lib.hid h
  obtain ⟨a1, n1, c1, rfl⟩ : ∃ a n c, v = .slice a n c := (by rcases h.2.2.2 with ⟨rfl, _⟩ | ⟨_, _, _, rfl, _⟩ <;> exact ⟨_, _, _, rfl⟩)
  clear h
  go_enter Tryd.func28, Tryd.ntmps28
  go_wp2_with (go_at_call 29; refine (appX _ _ _).mono ?_; rintro e w' ⟨rfl, rfl⟩)
  go_end0
  refine ⟨rfl, ⟨_, HW.out.1, one_setCell HW.out.2.1, HW.out.2.2.1, ?_⟩, ?_⟩
  · rcases HW.out.2.2.2 with hh | ⟨g, cap, cur, he, hbg, hg, rest⟩
    · exact .inl hh
    · refine .inr ⟨g, cap, cur, he, hbg, ?_, rest⟩
      rw [Below.heap_setCell]
      · exact hg
      · intro e
        simp only at e
        subst e
        rw [HW.out.2.1] at hg
        simp at hg
  · exact (Only.setCell (S := fun k => B ≤ k) (Only.refl _ _) (p := ⟨c, 0, none⟩) HW.out.1 _).below hbase (fun _ h => h)
theorem visitN (w : World) (B c : Nat) (v : Value) (xs : List ByteArray) (x : Value) (h : Ws B w c v xs) :
    Calls Tryd.prog 28 #[.iface 88 x, .pointer (some ⟨c, 0, none⟩)] w fun e w' => e = .returned (.tuple #[]) ∧ (∃ v', Ws B w' c v' xs) ∧ Below B w w' := by
  have hlt := (Array.getElem?_eq_some_iff.1 h.2.1).1
  have hbase : B ≤ w.heap.size := Nat.le_trans h.1 (Nat.le_of_lt hlt)
  have hc := cell_obj h.2.1 0 (u := v) rfl
  have hz := free_of_one h.2.1
  have HW := Lib.hid h
  obtain ⟨a1, n1, c1, rfl⟩ : ∃ a n c, v = .slice a n c := (by rcases h.2.2.2 with ⟨rfl, _⟩ | ⟨_, _, _, rfl, _⟩ <;> exact ⟨_, _, _, rfl⟩)
  clear h
  go_enter Tryd.func28, Tryd.ntmps28
  go_wp2_with (go_at_call 29; refine (appN _ _ _).mono ?_; rintro e w' ⟨rfl, rfl⟩)
  go_end0
  refine ⟨rfl, ⟨_, HW.out.1, one_setCell HW.out.2.1, HW.out.2.2.1, ?_⟩, ?_⟩
  · rcases HW.out.2.2.2 with hh | ⟨g, cap, cur, he, hbg, hg, rest⟩
    · exact .inl hh
    · refine .inr ⟨g, cap, cur, he, hbg, ?_, rest⟩
      rw [Below.heap_setCell]
      · exact hg
      · intro e
        simp only at e
        subst e
        rw [HW.out.2.1] at hg
        simp at hg
  · exact (Only.setCell (S := fun k => B ≤ k) (Only.refl _ _) (p := ⟨c, 0, none⟩) HW.out.1 _).below hbase (fun _ h => h)

end Go.Proofs.YtnepdkelnpengaaDoor
