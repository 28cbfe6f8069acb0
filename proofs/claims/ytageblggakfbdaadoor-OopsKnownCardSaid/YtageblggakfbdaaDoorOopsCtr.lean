/- Steps over a chain: the names of its steps, the outermost one first, in new memory. Condition: errors.errorType holds what its text lays; at most 131072 layers. -/
import Derived.Test.YtageblggakfbdaaDoorOopsTd
import Derived.Deep.RegionLaw
import Derived.Deep.AppendLies
namespace Go.Proofs.YtageblggakfbdaaDoor
open Go.RowKit Go.Extern.Stop Go.Stop Go.Extern

/-- The variable at block c holds the names xs, in memory of its own. -/
def Ws (B : Nat) (w : World) (c : Nat) (v : Value) (xs : List ByteArray) : Prop :=
  B ≤ c ∧ w.heap[c]? = some (.cells #[v] 31 (0, 0)) ∧ w.ownsRow B 9 1 v xs.length (strs xs) ∧ (xs = [] → v = .slice none 0 0)
/-- Only texts and variables of texts may turn. -/
structure Kp (W W' : World) : Prop where
  size : W.heap.size ≤ W'.heap.size
  same : ∀ (k : Nat) (cs : Array Value) (T : TypeId) (fr : Nat × Nat), W.heap[k]? = some (.cells cs T fr) → T ≠ 9 → T ≠ 31 → W'.heap[k]? = some (.cells cs T fr)
theorem Ch.kp {W W' : World} (h : Kp W W') : ∀ {L : List Lnk} {b : Value}, Ch W L b → Ch W' L b
  | [], _, _ => trivial
  | l :: L, b, ⟨h1, h2, h3, h4⟩ => ⟨by
      cases l
      · exact h.same _ _ _ _ h1 (by decide) (by decide)
      · exact h.same _ _ _ _ h1 (by decide) (by decide)
      · exact h.same _ _ _ _ h1 (by decide) (by decide), h2, h3, Ch.kp h h4⟩
theorem Kp.fr {W W' : World} (h : Kp W W') : Fr W W' := ⟨h.size, fun k cs T fr hk hT => h.same k cs T fr hk (by rcases hT with rfl | rfl | rfl <;> decide) (by rcases hT with rfl | rfl | rfl <;> decide)⟩

theorem Ws.apart {B c : Nat} {w : World} {v : Value} {xs : List ByteArray} (h : Ws B w c v xs) : v.ownBlock ≠ some c := by
  intro he
  obtain ⟨_, h1, ⟨_, h2⟩, _⟩ := h
  rcases h2 with ⟨rfl, _⟩ | ⟨g, cap, cur, rfl, _, hg, _⟩
  · simp [Value.ownBlock] at he
  · simp [Value.ownBlock] at he
    subst he
    rw [h1] at hg
    simp at hg
theorem Ws.jk {B c : Nat} {w w' : World} {v : Value} {xs : List ByteArray} (h : Ws B w c v xs) (j : Jk B w w') : Ws B w' c v xs := by
  refine ⟨h.1, j.same h.2.1 (by decide) (by decide) (by decide), ⟨h.2.2.1.1, ?_⟩, h.2.2.2⟩
  rcases h.2.2.1.2 with hh | ⟨g, cap, cur, he, hbg, hg, rest⟩
  · exact .inl hh
  · exact .inr ⟨g, cap, cur, he, hbg, j.same hg (by decide) (by decide) (by decide), rest⟩
theorem Ws.kp {B c : Nat} {w w' : World} {v : Value} {xs : List ByteArray} (h : Ws B w c v xs) (o : Only (fun k => k = c ∨ v.ownBlock = some k) w w') : Kp w w' :=
  ⟨o.size, fun k cs T fr hk h1 h2 => (o.block k (Array.getElem?_eq_some_iff.1 hk).1 (by
    rintro (rfl | he)
    · rw [h.2.1] at hk; cases hk; exact h2 rfl
    · rcases h.2.2.1.2 with ⟨rfl, _⟩ | ⟨g, cap, cur, rfl, _, hg, _⟩
      · simp [Value.ownBlock] at he
      · simp [Value.ownBlock] at he
        subst he
        rw [hg] at hk; cases hk; exact h1 rfl)).trans hk⟩
theorem Ws.put {B c : Nat} {w : World} {v v' : Value} {ys : List ByteArray} (hB : B ≤ c) (hc : w.heap[c]? = some (.cells #[v] 31 (0, 0))) (ho : w.ownsRow B 9 1 v' ys.length (strs ys)) (hn : ys = [] → v' = .slice none 0 0) : Ws B (w.setCell ⟨c, 0, none⟩ v') c v' ys := by
  refine ⟨hB, one_setCell hc, ⟨ho.1, ?_⟩, hn⟩
  rcases ho.2 with hh | ⟨g, cap, cur, he, hbg, hg, rest⟩
  · exact .inl hh
  · refine .inr ⟨g, cap, cur, he, hbg, ?_, rest⟩
    rw [Below.heap_setCell]
    · exact hg
    · intro e
      simp only at e
      subst e
      rw [hc] at hg
      simp at hg

theorem Kp.trans {a b c : World} (h : Kp a b) (k : Kp b c) : Kp a c := ⟨Nat.le_trans h.size k.size, fun i cs T fr hi h1 h2 => k.same i cs T fr (h.same i cs T fr hi h1 h2) h1 h2⟩
theorem Told.ws {w w' : World} {B c m : Nat} {v : Value} {xs : List ByteArray} {K : List Nat} (h : Told w m K) (hw : Ws B w c v xs) (o : Only (fun k => k = c ∨ v.ownBlock = some k) w w') : Told w' m K := by
  have kp := hw.kp o
  obtain ⟨es, clock, hm, hk, hc⟩ := h
  refine ⟨es, clock, (o.block m (Array.getElem?_eq_some_iff.1 hm).1 ?_).trans hm, hk, fun q hq => ?_⟩
  · rintro (e | e)
    · rw [e, hw.2.1] at hm; cases hm
    · rcases hw.2.2.1.2 with ⟨rfl, _⟩ | ⟨g, cap, cur, rfl, _, hg, _⟩
      · simp [Value.ownBlock] at e
      · simp [Value.ownBlock] at e
        rw [← e, hg] at hm; cases hm
  · obtain ⟨cs, hcs⟩ := hc q hq
    exact ⟨cs, kp.same _ _ _ _ hcs (by decide) (by decide)⟩
theorem Ws.cells {B c : Nat} {w w' : World} {v : Value} {xs : List ByteArray} (h : Ws B w c v xs) (o : ∀ (k : Nat) (cs : Array Value) (T : TypeId) (fr : Nat × Nat), w.heap[k]? = some (.cells cs T fr) → w'.heap[k]? = some (.cells cs T fr)) : Ws B w' c v xs := by
  refine ⟨h.1, o _ _ _ _ h.2.1, ⟨h.2.2.1.1, ?_⟩, h.2.2.2⟩
  rcases h.2.2.1.2 with hh | ⟨g, cap, cur, he, hbg, hg, rest⟩
  · exact .inl hh
  · exact .inr ⟨g, cap, cur, he, hbg, o _ _ _ _ hg, rest⟩
/-- What the visitor leaves behind. -/
def VsPost (B c mb : Nat) (w : World) (ys : List ByteArray) (K : List Nat) (e : Ending) (w' : World) : Prop := e = .returned (.bool false) ∧ (∃ v', Ws B w' c v' ys) ∧ Told w' mb K ∧ Kp w w' ∧ Below B w w'
set_option maxRecDepth 20000 in
set_option maxHeartbeats 4000000 in
theorem visit_step (w : World) (B c c2 mb : Nat) (v : Value) (xs : List ByteArray) (s : ByteArray) (u : Value) (p : Nat) (K : List Nat) (h : Ws B w c2 v xs) (ht : w.heap[c]? = some (.cells #[.map (some mb)] 67 (0, 0))) (hT : Told w mb K) (hBm : B ≤ mb) (hpK : p ∉ K) (hn : xs.length ≤ 131072) (hp : w.heap[p]? = some (.cells #[.string s, u] 59 (0, 0))) :
    Calls Tryd.prog 27 #[.iface 54 (ptr p), ptr c, ptr c2] w (VsPost B c2 mb w (xs ++ [s]) (K ++ [p])) := by
  obtain ⟨i0, hi0, hz⟩ := Option.map_eq_some_iff.1 strinfo
  obtain ⟨hz0, hz1, hz2⟩ : i0.zero = some (.string ⟨#[]⟩) ∧ i0.size = 1 ∧ i0.bytes = 16 := by simp only [Prod.mk.injEq] at hz; exact hz
  clear hz
  have hlt := (Array.getElem?_eq_some_iff.1 h.2.1).1
  have hbase : B ≤ w.heap.size := Nat.le_trans h.1 (Nat.le_of_lt hlt)
  have t0 := cell_obj ht 0 (u := .map (some mb)) rfl
  have hlk := told_lookup hT hpK hp
  have b1 := (Below.refl w.heap.size w).alloc (Nat.le_refl _) (.cells #[] 64)
  have hp1 := (b1.block p (Array.getElem?_eq_some_iff.1 hp).1).trans hp
  have t1 := cell_obj ((b1.block c (Array.getElem?_eq_some_iff.1 ht).1).trans ht) 0 (u := .map (some mb)) rfl
  have hT1 := hT.kb b1
  obtain ⟨w2, hup, hT2, ho2⟩ := told_update hT1 hpK hp1
  have hmb : ∃ es ck, w.heap[mb]? = some (.map es ck) := by obtain ⟨es, ck, hm, _⟩ := hT; exact ⟨es, ck, hm⟩
  have hcells : ∀ (k : Nat) (cs : Array Value) (T : TypeId) (fr : Nat × Nat), w.heap[k]? = some (.cells cs T fr) → w2.heap[k]? = some (.cells cs T fr) := fun k cs T fr hk => by
    have hkl := (Array.getElem?_eq_some_iff.1 hk).1
    rw [ho2.block k (Nat.lt_of_lt_of_le hkl b1.size) (fun e => by obtain ⟨es, ck, hm⟩ := hmb; rw [e, hm] at hk; simp at hk), b1.block k hkl]
    exact hk
  have hw2 := h.cells hcells
  have HW2 := Lib.hid hw2
  have HT2 := Lib.hid hT2
  have hp2 := hcells _ _ _ _ hp
  have n0 := cell_obj hw2.2.1 0 (u := v) rfl
  have f0 := free_of_one hw2.2.1
  have p0 := cell_obj hp2 0 (u := .string s) rfl
  have HB2 : Hid (Below B w w2) := Lib.hid ((b1.mono hbase).trans (ho2.below (Nat.le_trans hbase b1.size) (fun k hk => hk ▸ hBm)))
  have HK2 : Hid (Kp w w2) := Lib.hid ⟨Nat.le_trans b1.size ho2.size, fun k cs T fr hk _ _ => hcells k cs T fr hk⟩
  have HW := Lib.hid h
  have HBS := Lib.hid hbase
  clear h ht hT hp b1 hp1 hT1 hT2 ho2 hmb hcells hw2 hp2 hlt hbase hpK
  obtain ⟨a0, l0, q0, rfl⟩ : ∃ a n c, v = .slice a n c := (by rcases HW.out.2.2.1.2 with ⟨rfl, _⟩ | ⟨_, _, _, rfl, _⟩ <;> exact ⟨_, _, _, rfl⟩)
  go_enter Tryd.func27, Tryd.ntmps27
  go_wp2_with fail
  refine (stpS w p).mono ?_
  rintro e w' ⟨rfl, rfl⟩
  go_wp2_with fail
  have hown := HW2.out.2.2.1
  have hsz2 := HB2.out.size
  have hlt2 := (Array.getElem?_eq_some_iff.1 HW2.out.2.1).1
  have hb2 : B ≤ w2.heap.size := Nat.le_trans HBS.out hsz2
  go_region_law
    ((go_loud (refine step_append_lies _ (by rfl) _ _ _ (by rfl) B 9 i0 _ 1 16 Tryd.underlying31 hi0 hz0 hz1 hz2 rfl (by omega) _ xs.length (strs xs) (by rfl) ((hown.alloc _).drew) ⟨w2.heap.size, 0, none⟩ 1 1 [_] (by rfl) (by rfl) (World.news_of_block (cs := #[_]) (t := 9) (fr := (0, 0)) (heap_alloc_new w2 _)) (by simp [Value.oneCell']) (by omega) (by simp [maxLen]; omega) (by omega) (by simp; omega) (w2.heap.size + 1) (by simp) ?_)); intro g cap w3 own3 grow3 hat3 hlt3; have h3 : w3.heap[c2]? = some (.cells #[.slice a0 l0 q0] 31 (0, 0)) := (grow3.block c2 (by simp; omega) (fun e => HW2.out.apart e.symm)).trans ((Below.heap_alloc w2 _ _ hlt2).trans HW2.out.2.1); have y3 := cell_obj h3 0 (u := .slice a0 l0 q0) rfl; have f3 := free_of_one h3; have H3 := Lib.hid h3; have O3 := Lib.hid own3; have G3 := Lib.hid ((Only.refl (fun k => k = c2 ∨ (Value.slice a0 l0 q0).ownBlock = some k) w2).alloc (.cells #[.string s] 9) |>.drew |>.grown grow3 (fun k _ he => .inr he)); clear own3 grow3 hat3 hlt3 h3)
  all_goals
    go_wp2_with fail
    go_ret
    have o4 : Only (fun k => k = c2 ∨ (Value.slice a0 l0 q0).ownBlock = some k) w2 (w3.setCell ⟨c2, 0, none⟩ (.slice (some ⟨g, 0, none⟩) (xs.length + 1) cap)) := Only.setCell G3.out (p := ⟨c2, 0, none⟩) (.inl rfl) _
    refine ⟨rfl, ⟨_, Ws.put HW2.out.1 H3.out (by simpa using O3.out) (fun he => absurd he (by simp))⟩, HT2.out.ws HW2.out o4, HK2.out.trans (HW2.out.kp o4), HB2.out.trans (o4.below hb2 (fun k hk => hk.elim (fun e => e ▸ HW2.out.1) (fun e => (HW2.out.2.2.1.lt k e).1)))⟩
theorem visit_same (w : World) (c c2 : Nat) (u : Value) (hu : ∀ w, Calls Tryd.prog 28 #[u] w fun e w' => e = .returned (.pointer none) ∧ w = w') :
    Calls Tryd.prog 27 #[u, ptr c, ptr c2] w fun e w' => e = .returned (.bool false) ∧ w = w' := by
  have HU := Lib.hid hu
  clear hu
  go_enter Tryd.func27, Tryd.ntmps27
  go_wp2_with fail
  refine (HU.out w).mono ?_
  rintro e w' ⟨rfl, rfl⟩
  go_wp2_with fail
  go_ret
  exact ⟨rfl, rfl⟩
def PMs (c c2 : Nat) (w0 : World) (L : List Lnk) (b : Value) (M : List Lnk) (W : World) : Prop :=
  Below w0.heap.size w0 W ∧ Ch W M b ∧ ∃ mb K v xs, Ws w0.heap.size W c2 v xs ∧ xs ++ names M = names L ∧ W.heap[c]? = some (.cells #[.map (some mb)] 67 (0, 0)) ∧ Told W mb K ∧ w0.heap.size ≤ mb ∧ ∀ l ∈ M, l.blk ∉ K
def Falss (c2 : Nat) (w0 : World) (L : List Lnk) (W : World) : Prop := Below w0.heap.size w0 W ∧ ∃ v, Ws w0.heap.size W c2 v (names L)
theorem PMs_stable (c c2 : Nat) (w0 : World) (L : List Lnk) (b : Value) (M : List Lnk) : Stable w0.heap.size (PMs c c2 w0 L b M) := fun _ _ ⟨a1, a2, mb, K, v, xs, a3, a4, a5, a6, a7, a8⟩ j =>
  ⟨a1.trans (j.below a1.size), Ch.jk j a2, mb, K, v, xs, a3.jk j, a4, j.same a5 (by decide) (by decide) (by decide), a6.jk j, a7, a8⟩
theorem Falss_stable (c2 : Nat) (w0 : World) (L : List Lnk) : Stable w0.heap.size (Falss c2 w0 L) := fun _ _ ⟨a1, v, a3⟩ j => ⟨a1.trans (j.below a1.size), v, a3.jk j⟩
theorem Fr.refl (W : World) : Fr W W := ⟨Nat.le_refl _, fun _ _ _ _ h _ => h⟩

theorem vis_steps {b : Value} (hb0 : Base0 b) (c c2 : Nat) (w0 : World) (L : List Lnk) (hl : L.length ≤ 131072) (M : List Lnk) (W : World) (hp : PMs c c2 w0 L b M W) :
    Calls Tryd.prog 27 #[val M b, ptr c, ptr c2] W fun e w' => ∃ r, e = .returned (.bool r) ∧ QM b (PMs c c2 w0 L b) (fun _ => False) (Falss c2 w0 L) M r w' ∧ Fr W w' := by
  obtain ⟨p1, p2, mb, K, v, xs, p3, p4, p5, p6, p7, p8⟩ := hp
  have hn : xs.length ≤ 131072 := by
    have := names_length L
    rw [← p4, List.length_append] at this
    omega
  cases M with
  | nil =>
    refine (visit_same W c c2 b (fun w => stp_base b hb0 w)).mono ?_
    rintro e w' ⟨rfl, rfl⟩
    refine ⟨false, rfl, ⟨p1, v, ?_⟩, Fr.refl _⟩
    rw [← p4]; simpa [names] using p3
  | cons l M =>
    cases l with
    | step p s =>
      refine (visit_step W _ c c2 mb v xs s (val M b) p K p3 p5 p6 p7 (p8 _ List.mem_cons_self) hn p2.1).mono ?_
      rintro e w' ⟨rfl, ⟨v', q1⟩, q2, q3, q4⟩
      refine ⟨false, rfl, ⟨⟨p1.trans q4, Ch.kp q3 p2.2.2.2, mb, K ++ [p], v', _, q1, by rw [← p4]; simp [names, nm], q3.same _ _ _ _ p5 (by decide) (by decide), q2, p7, fun x hx e => ?_⟩, Ch.kp q3 p2⟩, q3.fr⟩
      rcases List.mem_append.1 e with e | e
      · exact p8 x (List.mem_cons_of_mem _ hx) e
      · have h1 := Ch.desc p2 x hx
        have h2 : x.blk = p := List.mem_singleton.1 e
        have h3 : (Lnk.step p s).blk = p := rfl
        omega
    | place p n =>
      refine (visit_same W c c2 _ (fun w => stpP w _)).mono ?_
      rintro e w' ⟨rfl, rfl⟩
      exact ⟨false, rfl, ⟨⟨p1, p2.2.2.2, mb, K, v, xs, p3, by rw [← p4]; simp [names, nm], p5, p6, p7, fun x hx => p8 x (List.mem_cons_of_mem _ hx)⟩, p2⟩, Fr.refl _⟩
    | which p n =>
      refine (visit_same W c c2 _ (fun w => stpW w _)).mono ?_
      rintro e w' ⟨rfl, rfl⟩
      exact ⟨false, rfl, ⟨⟨p1, p2.2.2.2, mb, K, v, xs, p3, by rw [← p4]; simp [names, nm], p5, p6, p7, fun x hx => p8 x (List.mem_cons_of_mem _ hx)⟩, p2⟩, Fr.refl _⟩

theorem enterCS (args : Array Value) (w : World) : (callFunc 27 args).run Tryd.prog w = .ok (.enter 27 args) w := by kernel_rfl
theorem asgLS (w : World) : (ReflectliteType.relation "AssignableTo" ReflectliteType.assignableTo #[.agg #[hd 105], .iface 110 (.agg #[hd 54])]).run Tryd.prog w = .ok (.bool false) w := by kernel_rfl

set_option maxHeartbeats 4000000 in
theorem steps_g (w : World) (L : List Lnk) (b : Value) (hb : Base b ∨ (b = .nilIface ∧ L = [])) (hg : Glob w) (hc : Ch w L b) (hl : L.length ≤ 131072) :
    Calls Tryd.prog 11 #[val L b] w fun e w' => ∃ v, e = .returned v ∧ w'.ownsRow w.heap.size 9 1 v (names L).length (strs (names L)) ∧ Below w.heap.size w w' ∧ (names L = [] → v = .slice none 0 0) := by
  have hb0 : Base0 b := by rcases hb with h | h; exact .inl h; exact .inr h.1
  have b1 := (Below.refl w.heap.size w).alloc (Nat.le_refl _) (.cells #[.slice none 0 0] 31)
  have b2 := b1.alloc (by simp) (.map #[] 0)
  have b3 := b2.alloc (by simp; omega) (.cells #[.map (some (w.heap.size + 1))] 67)
  have e2 := heap_alloc_new (w.alloc (.cells #[.slice none 0 0] 31)) (.map #[] 0)
  have e3 := heap_alloc_new ((w.alloc (.cells #[.slice none 0 0] 31)).alloc (.map #[] 0)) (.cells #[.map (some (w.heap.size + 1))] 67)
  rw [show (w.alloc (.cells #[.slice none 0 0] 31)).heap.size = w.heap.size + 1 from by simp] at e2
  rw [show ((w.alloc (.cells #[.slice none 0 0] 31)).alloc (.map #[] 0)).heap.size = w.heap.size + 2 from by simp] at e3
  have g1 : (((w.alloc (.cells #[.slice none 0 0] 31)).alloc (.map #[] 0)).alloc (.cells #[.map (some (w.heap.size + 1))] 67)).heap[w.heap.size]? = some (.cells #[.slice none 0 0] 31 (0, 0)) := by
    rw [Below.heap_alloc _ _ _ (by simp; omega), Below.heap_alloc _ _ _ (by simp)]; exact heap_alloc_new w _
  have g2 : (((w.alloc (.cells #[.slice none 0 0] 31)).alloc (.map #[] 0)).alloc (.cells #[.map (some (w.heap.size + 1))] 67)).heap[w.heap.size + 1]? = some (.map #[] 0) := by
    rw [Below.heap_alloc _ _ _ (by simp)]; exact e2
  have HB3 := Lib.hid b3
  have HWS : Hid (Ws w.heap.size _ w.heap.size (.slice none 0 0) []) := Lib.hid ⟨Nat.le_refl _, g1, ⟨by simp, .inl ⟨rfl, rfl⟩⟩, fun _ => rfl⟩
  have HTD : Hid (Told _ (w.heap.size + 1) []) := Lib.hid ⟨#[], 0, g2, rfl, fun q hq => by cases hq⟩
  have HE3 := Lib.hid e3
  have HCH := Lib.hid (hc.kb b3)
  have HGL := Lib.hid (hg.kb b3)
  have HCA := Lib.hid (fun W c c2 => chain_any W (val L b) 27 c c2 (val_shape hb))
  have HAA := Lib.hid (fun W s tb (hB : Below w.heap.size w W) (hG : Glob W) (hch : Ch W L b) (h1 : W.heap[w.heap.size + 2]? = some (.cells #[.map (some (w.heap.size + 1))] 67 (0, 0))) (h2 : Ws w.heap.size W w.heap.size (.slice none 0 0) []) (h3 : Told W (w.heap.size + 1) []) (hs : Srch W s (suit 27 (w.heap.size + 2) w.heap.size) 0) (hsl : w.heap.size ≤ s) =>
    alAs_any (B := w.heap.size) (g := 27) (c := w.heap.size + 2) (c2 := w.heap.size) enterCS (b := b) (PM := PMs (w.heap.size + 2) w.heap.size w L b) (Fin := fun _ => False) (Fals := Falss w.heap.size w L)
    (PMs_stable _ _ w L b) (fun _ _ h _ => h) (Falss_stable _ w L) (fun M W hp => ⟨hp.2.1, hp.1.size⟩)
    (fun M W hp => vis_steps hb0 _ _ w L hl M W hp) asgLS tgtS W L hb s 0 tb hsl hl hs (by omega) hG ⟨hB, hch, w.heap.size + 1, [], _, [], h2, rfl, h1, h3, Nat.le_succ _, fun _ _ h => by cases h⟩)
  have hmk := fun w => run_makeMap (P := Tryd.prog) 67 w
  have hmf : ∀ (fn : Fn) (first cap : Array Value) (w : World), (Instr.makeFunc fn first cap).run Tryd.prog w = .ok (.func fn first cap) w := fun _ _ _ _ => rfl
  clear hb hb0 hg hc hl b1 b2 b3 e2 e3 g1 g2
  obtain ⟨u, hu⟩ : ∃ u, u = val L b := ⟨_, rfl⟩
  rw [← hu] at HCA HAA ⊢
  clear hu
  go_enter Tryd.func11, Tryd.ntmps11
  go_wp2_with fail
  generalize ((w.alloc (.cells #[.slice none 0 0] 31)).alloc (.map #[] 0)).alloc (.cells #[.map (some (w.heap.size + 1))] 67) = W3 at *
  refine (HCA.out W3 _ _).mono ?_
  rintro e W4 ⟨s, rfl, b4, h4, g4⟩
  have b5 := b4.alloc (by have := b4.size; omega) (.cells #[.pointer none] 54)
  have hs5 : Srch (W4.alloc (.cells #[.pointer none] 54)) s (suit 27 (w.heap.size + 2) w.heap.size) 0 := by
    have hl4 := h4.lt
    unfold Srch
    rw [Below.heap_alloc _ _ _ hl4]; exact h4
  have hkc : ∀ (k : Nat) (cs : Array Value) (T : TypeId) (fr : Nat × Nat), W3.heap[k]? = some (.cells cs T fr) → (W4.alloc (.cells #[.pointer none] 54)).heap[k]? = some (.cells cs T fr) := fun k cs T fr hk => (b5.block k (Array.getElem?_eq_some_iff.1 hk).1).trans hk
  have HA5 := Lib.hid (HAA.out (W4.alloc (.cells #[.pointer none] 54)) s W4.heap.size (HB3.out.trans (b5.mono HB3.out.size)) (HGL.out.kb b5) (HCH.out.kb b5) (hkc _ _ _ _ HE3.out) (HWS.out.cells hkc) (HTD.out.kb b5) hs5 (Nat.le_trans HB3.out.size g4))
  clear b4 h4 g4 b5 hs5 hkc HCA HAA
  go_wp2_with fail
  refine HA5.out.mono ?_
  rintro e w2 ⟨r, rfl, hr⟩
  cases r with
  | true => exact absurd hr (fun h => h)
  | false =>
    obtain ⟨h3, v', h4⟩ : Falss w.heap.size w L w2 := hr
    have m0 := cell_obj h4.2.1 0 (u := v') rfl
    have mf := free_of_one h4.2.1
    obtain ⟨a1, n1, c1, rfl⟩ : ∃ a n c, v' = .slice a n c := (by rcases h4.2.2.1.2 with ⟨rfl, _⟩ | ⟨_, _, _, rfl, _⟩ <;> exact ⟨_, _, _, rfl⟩)
    have H3 := Lib.hid h3
    have H4 := Lib.hid h4
    clear h3 h4
    go_wp2_with fail
    go_ret
    exact ⟨_, rfl, H4.out.2.2.1, H3.out, H4.out.2.2.2⟩

theorem ctr : Ctr where
  kind_nil := kind_nil
  kind_any := kind_any
  where_any := where_any
  whose_any := whose_any
  steps_any := fun w L b hb hg hc hl => (steps_g w L b (.inl hb) hg hc hl).mono (by rintro e w' ⟨v, rfl, h1, h2, _⟩; exact ⟨v, rfl, h1, h2⟩)
  steps_nil := fun w hg => (steps_g w [] .nilIface (.inr ⟨rfl, rfl⟩) hg trivial (by decide)).mono (by rintro e w' ⟨v, rfl, h1, h2, h3⟩; rw [h3 rfl]; exact ⟨rfl, h2⟩)
  whose_nil := whose_nil
end Go.Proofs.YtageblggakfbdaaDoor
