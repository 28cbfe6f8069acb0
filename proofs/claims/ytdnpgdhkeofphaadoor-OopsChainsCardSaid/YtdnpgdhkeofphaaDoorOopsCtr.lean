/- Steps over a chain: the names of its steps, the outermost one first, in new memory. Condition: errors.errorType holds what its text lays; at most 131072 layers. -/
import Derived.Test.YtdnpgdhkeofphaaDoorOopsCtA
namespace Go.Proofs.YtdnpgdhkeofphaaDoor
open Go.RowKit Go.Extern.Stop Go.Stop Go.Extern

theorem tsS (x : Value) (w : World) : (Instr.typeAssert (.iface 54 x) 25 54 true).run Tryd.prog w = .ok (.tuple #[x, .bool true]) w := by kernel_rfl
set_option maxRecDepth 20000 in
theorem app_step (w : World) (B : Nat) (v : Value) (xs : List ByteArray) (s : ByteArray) (u : Value) (p : Nat) (hown : w.ownsRow B 9 1 v xs.length (strs xs)) (hB : B ≤ w.heap.size) (hn : xs.length ≤ 131072)
    (hp : w.heap[p]? = some (.cells #[.string s, u] 59 (0, 0))) :
    Calls Tryd.prog 36 #[v, .iface 54 (.pointer (some ⟨p, 0, none⟩))] w fun e w' => ∃ v', e = .returned v' ∧ w'.ownsRow B 9 1 v' (xs ++ [s]).length (strs (xs ++ [s])) ∧
      Only (fun k => v.ownBlock = some k) w w' ∧ (v'.ownBlock = v.ownBlock ∨ ∃ g, v'.ownBlock = some g ∧ w.heap.size ≤ g) := by
  obtain ⟨i0, hi0, hz⟩ := Option.map_eq_some_iff.1 strinfo
  obtain ⟨hz0, hz1, hz2⟩ : i0.zero = some (.string ⟨#[]⟩) ∧ i0.size = 1 ∧ i0.bytes = 16 := by simp only [Prod.mk.injEq] at hz; exact hz
  have hc := cell_obj hp 0 (u := .string s) rfl
  have h := tsS
  clear hz hp
  go_enter Tryd.func36, Tryd.ntmps36
  go_wp2_with (at_builtin; go_loud (refine wpList_append_lies _ (by rfl) (.tmp 17) (.tmp 22) _ (by rfl) B 9 i0 _ 1 16 Tryd.underlying31 hi0 hz0 hz1 hz2 rfl (by omega) v xs.length (strs xs) (by rfl) (hown.alloc _) ⟨w.heap.size, 0, none⟩ 1 1 [_] (by rfl) (by rfl) (World.news_of_block (cs := #[_]) (t := 9) (fr := (0, 0)) (heap_alloc_new w _)) (by simp [Value.oneCell']) (by omega) (by simp [maxLen]; omega) (by omega) (by simp; omega) (w.heap.size + 1) (by simp) ?_); intro g cap w1 hown1 hgrow hat hlt1)
  go_ret
  refine ⟨_, rfl, by simpa using hown1, ?_, ?_⟩
  · exact ((Only.refl _ _).alloc _).grown hgrow (fun k _ h => h)
  · rcases hat with hat | hat
    · exact .inl hat.symm
    · exact .inr ⟨g, rfl, by omega⟩

theorem tsP (x : Value) (w : World) : (Instr.typeAssert (.iface 55 x) 25 54 true).run Tryd.prog w = .ok (.tuple #[.pointer none, .bool false]) w := by kernel_rfl
theorem appP (w : World) (v x : Value) : Calls Tryd.prog 36 #[v, .iface 55 x] w fun e w' => e = .returned v ∧ w = w' := by
  have h := tsP
  go_enter Tryd.func36, Tryd.ntmps36
  go_wp2
  go_ret
  exact ⟨rfl, rfl⟩
theorem tsW (x : Value) (w : World) : (Instr.typeAssert (.iface 37 x) 25 54 true).run Tryd.prog w = .ok (.tuple #[.pointer none, .bool false]) w := by kernel_rfl
theorem appW (w : World) (v x : Value) : Calls Tryd.prog 36 #[v, .iface 37 x] w fun e w' => e = .returned v ∧ w = w' := by
  have h := tsW
  go_enter Tryd.func36, Tryd.ntmps36
  go_wp2
  go_ret
  exact ⟨rfl, rfl⟩
theorem tsE (x : Value) (w : World) : (Instr.typeAssert (.iface 29 x) 25 54 true).run Tryd.prog w = .ok (.tuple #[.pointer none, .bool false]) w := by kernel_rfl
theorem appE (w : World) (v x : Value) : Calls Tryd.prog 36 #[v, .iface 29 x] w fun e w' => e = .returned v ∧ w = w' := by
  have h := tsE
  go_enter Tryd.func36, Tryd.ntmps36
  go_wp2
  go_ret
  exact ⟨rfl, rfl⟩
theorem tsX (x : Value) (w : World) : (Instr.typeAssert (.iface 65 x) 25 54 true).run Tryd.prog w = .ok (.tuple #[.pointer none, .bool false]) w := by kernel_rfl
theorem appX (w : World) (v x : Value) : Calls Tryd.prog 36 #[v, .iface 65 x] w fun e w' => e = .returned v ∧ w = w' := by
  have h := tsX
  go_enter Tryd.func36, Tryd.ntmps36
  go_wp2
  go_ret
  exact ⟨rfl, rfl⟩
theorem tsN (x : Value) (w : World) : (Instr.typeAssert (.iface 98 x) 25 54 true).run Tryd.prog w = .ok (.tuple #[.pointer none, .bool false]) w := by kernel_rfl
theorem appN (w : World) (v x : Value) : Calls Tryd.prog 36 #[v, .iface 98 x] w fun e w' => e = .returned v ∧ w = w' := by
  have h := tsN
  go_enter Tryd.func36, Tryd.ntmps36
  go_wp2
  go_ret
  exact ⟨rfl, rfl⟩
theorem ts0 (w : World) : (Instr.typeAssert .nilIface 25 54 true).run Tryd.prog w = .ok (.tuple #[.pointer none, .bool false]) w := by kernel_rfl
theorem app0 (w : World) (v : Value) : Calls Tryd.prog 36 #[v, .nilIface] w fun e w' => e = .returned v ∧ w = w' := by
  have h := ts0
  go_enter Tryd.func36, Tryd.ntmps36
  go_wp2
  go_ret
  exact ⟨rfl, rfl⟩
theorem app_same (b : Value) (hb : Base0 b) (w : World) (v : Value) : Calls Tryd.prog 36 #[v, b] w fun e w' => e = .returned v ∧ w = w' := by
  rcases hb with (⟨k, rfl⟩ | rfl | ⟨p, rfl⟩) | rfl
  · exact appE w v _
  · exact appX w v _
  · exact appN w v _
  · exact app0 w v

/-- The variable at block c holds the names xs, in memory of its own. -/
def Ws (B : Nat) (w : World) (c : Nat) (v : Value) (xs : List ByteArray) : Prop :=
  B ≤ c ∧ w.heap[c]? = some (.cells #[v] 31 (0, 0)) ∧ w.ownsRow B 9 1 v xs.length (strs xs) ∧ (xs = [] → v = .slice none 0 0)
/-- Only texts and variables of texts may turn. -/
structure Kp (W W' : World) : Prop where
  size : W.heap.size ≤ W'.heap.size
  same : ∀ (k : Nat) (cs : Array Value) (T : TypeId) (fr : Nat × Nat), W.heap[k]? = some (.cells cs T fr) → T ≠ 9 → T ≠ 31 → W'.heap[k]? = some (.cells cs T fr)
theorem Ch.kp {W W' : World} (h : Kp W W') : ∀ {L : List Lnk} {b : Value}, Ch W L b → Ch W' L b
  | [], _, _ => trivial
  | l :: L, b, ⟨h1, h2, h3, h4⟩ => ⟨by
      cases l
      · exact h.same _ _ _ _ h1 (by decide) (by decide)
      · exact h.same _ _ _ _ h1 (by decide) (by decide)
      · exact h.same _ _ _ _ h1 (by decide) (by decide), h2, h3, Ch.kp h h4⟩
theorem Kp.fr {W W' : World} (h : Kp W W') : Fr W W' := ⟨h.size, fun k cs T fr hk hT => h.same k cs T fr hk (by rcases hT with rfl | rfl | rfl <;> decide) (by rcases hT with rfl | rfl | rfl <;> decide)⟩

theorem Ws.apart {B c : Nat} {w : World} {v : Value} {xs : List ByteArray} (h : Ws B w c v xs) : v.ownBlock ≠ some c := by
  intro he
  obtain ⟨_, h1, ⟨_, h2⟩, _⟩ := h
  rcases h2 with ⟨rfl, _⟩ | ⟨g, cap, cur, rfl, _, hg, _⟩
  · simp [Value.ownBlock] at he
  · simp [Value.ownBlock] at he
    subst he
    rw [h1] at hg
    simp at hg
theorem Ws.jk {B c : Nat} {w w' : World} {v : Value} {xs : List ByteArray} (h : Ws B w c v xs) (j : Jk B w w') : Ws B w' c v xs := by
  refine ⟨h.1, j.same h.2.1 (by decide) (by decide) (by decide), ⟨h.2.2.1.1, ?_⟩, h.2.2.2⟩
  rcases h.2.2.1.2 with hh | ⟨g, cap, cur, he, hbg, hg, rest⟩
  · exact .inl hh
  · exact .inr ⟨g, cap, cur, he, hbg, j.same hg (by decide) (by decide) (by decide), rest⟩
theorem Ws.kp {B c : Nat} {w w' : World} {v : Value} {xs : List ByteArray} (h : Ws B w c v xs) (o : Only (fun k => k = c ∨ v.ownBlock = some k) w w') : Kp w w' :=
  ⟨o.size, fun k cs T fr hk h1 h2 => (o.block k (Array.getElem?_eq_some_iff.1 hk).1 (by
    rintro (rfl | he)
    · rw [h.2.1] at hk; cases hk; exact h2 rfl
    · rcases h.2.2.1.2 with ⟨rfl, _⟩ | ⟨g, cap, cur, rfl, _, hg, _⟩
      · simp [Value.ownBlock] at he
      · simp [Value.ownBlock] at he
        subst he
        rw [hg] at hk; cases hk; exact h1 rfl)).trans hk⟩
theorem Ws.put {B c : Nat} {w : World} {v v' : Value} {ys : List ByteArray} (hB : B ≤ c) (hc : w.heap[c]? = some (.cells #[v] 31 (0, 0))) (ho : w.ownsRow B 9 1 v' ys.length (strs ys)) (hn : ys = [] → v' = .slice none 0 0) : Ws B (w.setCell ⟨c, 0, none⟩ v') c v' ys := by
  refine ⟨hB, one_setCell hc, ⟨ho.1, ?_⟩, hn⟩
  rcases ho.2 with hh | ⟨g, cap, cur, he, hbg, hg, rest⟩
  · exact .inl hh
  · refine .inr ⟨g, cap, cur, he, hbg, ?_, rest⟩
    rw [Below.heap_setCell]
    · exact hg
    · intro e
      simp only at e
      subst e
      rw [hc] at hg
      simp at hg

/-- What the visitor leaves behind. -/
def VsPost (B c : Nat) (w : World) (ys : List ByteArray) (e : Ending) (w' : World) : Prop := e = .returned (.bool false) ∧ (∃ v', Ws B w' c v' ys) ∧ Kp w w' ∧ Below B w w'

theorem visit_step (w : World) (B c : Nat) (v : Value) (xs : List ByteArray) (s : ByteArray) (u : Value) (p : Nat) (h : Ws B w c v xs) (hn : xs.length ≤ 131072) (hp : w.heap[p]? = some (.cells #[.string s, u] 59 (0, 0))) :
    Calls Tryd.prog 35 #[.iface 54 (.pointer (some ⟨p, 0, none⟩)), .pointer (some ⟨c, 0, none⟩)] w (VsPost B c w (xs ++ [s])) := by
  have hlt := (Array.getElem?_eq_some_iff.1 h.2.1).1
  have hbase : B ≤ w.heap.size := Nat.le_trans h.1 (Nat.le_of_lt hlt)
  have HA := Lib.hid (app_step w B v xs s u p h.2.2.1 hbase hn hp)
  have hc := cell_obj h.2.1 0 (u := v) rfl
  have HW := Lib.hid h
  clear hp h hn
  go_enter Tryd.func35, Tryd.ntmps35
  go_wp2_with (go_at_call 36; refine HA.out.mono ?_; rintro e w' ⟨v', rfl, R1, R2, R3⟩; have r4 := (R2.block c hlt HW.out.apart).trans HW.out.2.1; have hc1 := cell_obj r4 0 (u := v) rfl; have hz1 := free_of_one r4
               have H1 := Lib.hid R1; have H2 := Lib.hid R2; have H3 := Lib.hid R3; have H4 := Lib.hid r4; have H5 : Hid (v'.oneCell' = true) := Lib.hid (by rcases R1.2 with ⟨rfl, _⟩ | ⟨_, _, _, rfl, _⟩ <;> rfl); obtain ⟨a1, n1, c1, rfl⟩ : ∃ a n c, v' = .slice a n c := (by rcases R1.2 with ⟨rfl, _⟩ | ⟨_, _, _, rfl, _⟩ <;> exact ⟨_, _, _, rfl⟩); clear R1 R2 R3 r4)
  go_ret
  have o : Only (fun k => k = c ∨ v.ownBlock = some k) w (w'.setCell ⟨c, 0, none⟩ (.slice a1 n1 c1)) := Only.setCell (H2.out.mono (fun k _ hk => .inr hk)) (p := ⟨c, 0, none⟩) (.inl rfl) _
  refine ⟨rfl, ⟨_, Ws.put HW.out.1 H4.out H1.out (fun he => absurd he (by simp))⟩, HW.out.kp o, o.below hbase ?_⟩
  rintro k (rfl | hk)
  · exact HW.out.1
  · exact (HW.out.2.2.1.lt k hk).1

theorem visit_same (w : World) (B c : Nat) (v u : Value) (xs : List ByteArray) (h : Ws B w c v xs) (hu : ∀ w v, Calls Tryd.prog 36 #[v, u] w fun e w' => e = .returned v ∧ w = w') :
    Calls Tryd.prog 35 #[u, .pointer (some ⟨c, 0, none⟩)] w (VsPost B c w xs) := by
  have hlt := (Array.getElem?_eq_some_iff.1 h.2.1).1
  have hbase : B ≤ w.heap.size := Nat.le_trans h.1 (Nat.le_of_lt hlt)
  have hc := cell_obj h.2.1 0 (u := v) rfl
  have hz := free_of_one h.2.1
  have HW := Lib.hid h
  have HU := Lib.hid hu
  obtain ⟨a1, n1, c1, rfl⟩ : ∃ a n c, v = .slice a n c := (by rcases h.2.2.1.2 with ⟨rfl, _⟩ | ⟨_, _, _, rfl, _⟩ <;> exact ⟨_, _, _, rfl⟩)
  clear h hu
  go_enter Tryd.func35, Tryd.ntmps35
  go_wp2_with (go_at_call 36; refine (HU.out _ _).mono ?_; rintro e w' ⟨rfl, rfl⟩)
  go_ret
  have o : Only (fun k => k = c ∨ (Value.slice a1 n1 c1).ownBlock = some k) w (w.setCell ⟨c, 0, none⟩ (.slice a1 n1 c1)) := Only.setCell (Only.refl _ _) (p := ⟨c, 0, none⟩) (.inl rfl) _
  refine ⟨rfl, ⟨_, Ws.put HW.out.1 HW.out.2.1 HW.out.2.2.1 HW.out.2.2.2⟩, HW.out.kp o, o.below hbase ?_⟩
  rintro k (rfl | hk)
  · exact HW.out.1
  · exact (HW.out.2.2.1.lt k hk).1

def PMs (c : Nat) (w0 : World) (L : List Lnk) (b : Value) (M : List Lnk) (W : World) : Prop :=
  Below w0.heap.size w0 W ∧ Ch W M b ∧ ∃ v xs, Ws w0.heap.size W c v xs ∧ xs ++ names M = names L
def Falss (c : Nat) (w0 : World) (L : List Lnk) (W : World) : Prop := Below w0.heap.size w0 W ∧ ∃ v, Ws w0.heap.size W c v (names L)
theorem PMs_stable (c : Nat) (w0 : World) (L : List Lnk) (b : Value) (M : List Lnk) : Stable w0.heap.size (PMs c w0 L b M) := fun _ _ ⟨a1, a2, v, xs, a3, a4⟩ j =>
  ⟨a1.trans (j.below a1.size), Ch.jk j a2, v, xs, a3.jk j, a4⟩
theorem Falss_stable (c : Nat) (w0 : World) (L : List Lnk) : Stable w0.heap.size (Falss c w0 L) := fun _ _ ⟨a1, v, a3⟩ j => ⟨a1.trans (j.below a1.size), v, a3.jk j⟩

theorem vis_steps {b : Value} (hb0 : Base0 b) (c : Nat) (w0 : World) (L : List Lnk) (hl : L.length ≤ 131072) (M : List Lnk) (W : World) (hp : PMs c w0 L b M W) :
    Calls Tryd.prog 35 #[val M b, .pointer (some ⟨c, 0, none⟩)] W fun e w' => ∃ r, e = .returned (.bool r) ∧ QM b (PMs c w0 L b) (fun _ => False) (Falss c w0 L) M r w' ∧ Fr W w' := by
  obtain ⟨p1, p2, v, xs, p3, p4⟩ := hp
  have hn : xs.length ≤ 131072 := by
    have := names_length L
    rw [← p4, List.length_append] at this
    omega
  cases M with
  | nil =>
    refine (visit_same W _ c v b xs p3 (app_same b hb0)).mono ?_
    rintro e w' ⟨rfl, ⟨v', q1⟩, q2, q3⟩
    refine ⟨false, rfl, ⟨p1.trans q3, v', ?_⟩, q2.fr⟩
    rw [← p4]; simpa [names] using q1
  | cons l M =>
    cases l with
    | step p s =>
      refine (visit_step W _ c v xs s (val M b) p p3 hn p2.1).mono ?_
      rintro e w' ⟨rfl, ⟨v', q1⟩, q2, q3⟩
      exact ⟨false, rfl, ⟨⟨p1.trans q3, Ch.kp q2 p2.2.2.2, v', _, q1, by rw [← p4]; simp [names, nm]⟩, Ch.kp q2 p2⟩, q2.fr⟩
    | place p n =>
      refine (visit_same W _ c v _ xs p3 (fun w v => appP w v _)).mono ?_
      rintro e w' ⟨rfl, ⟨v', q1⟩, q2, q3⟩
      exact ⟨false, rfl, ⟨⟨p1.trans q3, Ch.kp q2 p2.2.2.2, v', _, q1, by rw [← p4]; simp [names, nm]⟩, Ch.kp q2 p2⟩, q2.fr⟩
    | which p n =>
      refine (visit_same W _ c v _ xs p3 (fun w v => appW w v _)).mono ?_
      rintro e w' ⟨rfl, ⟨v', q1⟩, q2, q3⟩
      exact ⟨false, rfl, ⟨⟨p1.trans q3, Ch.kp q2 p2.2.2.2, v', _, q1, by rw [← p4]; simp [names, nm]⟩, Ch.kp q2 p2⟩, q2.fr⟩

theorem enterCS (args : Array Value) (w : World) : (callFunc 35 args).run Tryd.prog w = .ok (.enter 35 args) w := by kernel_rfl
theorem asgLS (w : World) : (ReflectliteType.relation "AssignableTo" ReflectliteType.assignableTo #[.agg #[hd 129], .iface 132 (.agg #[hd 54])]).run Tryd.prog w = .ok (.bool false) w := by kernel_rfl

set_option maxHeartbeats 4000000 in
theorem steps_g (w : World) (L : List Lnk) (b : Value) (hb : Base b ∨ (b = .nilIface ∧ L = [])) (hg : Glob w) (hc : Ch w L b) (hl : L.length ≤ 131072) :
    Calls Tryd.prog 13 #[val L b] w fun e w' => ∃ v, e = .returned v ∧ w'.ownsRow w.heap.size 9 1 v (names L).length (strs (names L)) ∧ Below w.heap.size w w' ∧ (names L = [] → v = .slice none 0 0) := by
  have hb0 : Base0 b := by rcases hb with h | h; exact .inl h; exact .inr h.1
  have b1 := (Below.refl w.heap.size w).alloc (Nat.le_refl _) (.cells #[.slice none 0 0] 31)
  have b2 := b1.alloc (by simp) (.cells #[suit 35 w.heap.size, .int .i64 134217728] 127)
  have b3 := b2.alloc (by simp; omega) (.cells #[.pointer none] 54)
  have hw0 : Ws w.heap.size (w.alloc (.cells #[.slice none 0 0] 31)) w.heap.size (.slice none 0 0) [] := ⟨Nat.le_refl _, heap_alloc_last w _, ⟨by simp, .inl ⟨rfl, rfl⟩⟩, fun _ => rfl⟩
  have j1 := ((Jk.refl w.heap.size (w.alloc (.cells #[.slice none 0 0] 31))).alloc (.cells #[suit 35 w.heap.size, .int .i64 134217728] 127)).alloc (.cells #[.pointer none] 54)
  have hs1 : Srch (((w.alloc (.cells #[.slice none 0 0] 31)).alloc (.cells #[suit 35 w.heap.size, .int .i64 134217728] 127)).alloc (.cells #[.pointer none] 54)) (w.heap.size + 1) (suit 35 w.heap.size) 134217728 := by
    have := heap_alloc_new (w.alloc (.cells #[.slice none 0 0] 31)) (.cells #[suit 35 w.heap.size, .int .i64 134217728] 127)
    unfold Srch
    rw [Below.heap_alloc _ _ _ (by simp)]
    simpa using this
  have HK := Lib.hid (chain_any (w.alloc (.cells #[.slice none 0 0] 31)) (val L b) 35 w.heap.size (val_shape hb))
  have HA := Lib.hid (alAs_any (B := w.heap.size) (g := 35) (c := w.heap.size) enterCS (b := b) (PM := PMs w.heap.size w L b) (Fin := fun _ => False) (Fals := Falss w.heap.size w L)
    (PMs_stable _ w L b) (fun _ _ h _ => h) (Falss_stable _ w L) (fun M W hp => ⟨hp.2.1, hp.1.size⟩)
    (fun M W hp => vis_steps hb0 _ w L hl M W hp) asgLS tgtS _ L hb (w.heap.size + 1) 134217728 (w.heap.size + 2) (Nat.le_succ _) hl hs1 (by omega) (by omega) (hg.kb b3) ⟨b3, hc.kb b3, _, [], hw0.jk j1, rfl⟩)
  have hmf : ∀ (fn : Fn) (first cap : Array Value) (w : World), (Instr.makeFunc fn first cap).run Tryd.prog w = .ok (.func fn first cap) w := fun _ _ _ _ => rfl
  clear hb hb0 hg hc hl b1 b2 b3 hw0 j1 hs1
  obtain ⟨u, hu⟩ : ∃ u, u = val L b := ⟨_, rfl⟩
  rw [← hu] at HK HA ⊢
  clear hu
  go_enter Tryd.func13, Tryd.ntmps13
  go_wp2_with fail
  refine HK.out.mono ?_
  rintro e w' ⟨rfl, rfl⟩
  rw [show (w.alloc (.cells #[.slice none 0 0] 31)).heap.size = w.heap.size + 1 from by simp]
  go_wp2_with fail
  refine HA.out.mono ?_
  rintro e w2 ⟨r, rfl, hr⟩
  cases r with
  | true => exact absurd hr (fun h => h)
  | false =>
    obtain ⟨h3, v', h4⟩ : Falss w.heap.size w L w2 := hr
    have m0 := cell_obj h4.2.1 0 (u := v') rfl
    have mf := free_of_one h4.2.1
    obtain ⟨a1, n1, c1, rfl⟩ : ∃ a n c, v' = .slice a n c := (by rcases h4.2.2.1.2 with ⟨rfl, _⟩ | ⟨_, _, _, rfl, _⟩ <;> exact ⟨_, _, _, rfl⟩)
    have H3 := Lib.hid h3
    have H4 := Lib.hid h4
    clear h3 h4
    go_wp2_with fail
    go_ret
    exact ⟨_, rfl, H4.out.2.2.1, H3.out, H4.out.2.2.2⟩

theorem ctr : Ctr where
  kind_nil := kind_nil
  kind_any := kind_any
  where_any := where_any
  whose_any := whose_any
  steps_any := fun w L b hb hg hc hl => (steps_g w L b (.inl hb) hg hc hl).mono (by rintro e w' ⟨v, rfl, h1, h2, _⟩; exact ⟨v, rfl, h1, h2⟩)
  steps_nil := fun w hg => (steps_g w [] .nilIface (.inr ⟨rfl, rfl⟩) hg trivial (by decide)).mono (by rintro e w' ⟨v, rfl, h1, h2, h3⟩; rw [h3 rfl]; exact ⟨rfl, h2⟩)
  whose_nil := whose_nil
end Go.Proofs.YtdnpgdhkeofphaaDoor
