/- Unwrap of a link: a link around what the error wraps, or none. No condition. -/
import Derived.Test.YtdnpgdhkeofphaaDoorOopsL
import Derived.Laws.AppendOwn
namespace Go.Proofs.YtdnpgdhkeofphaaDoor
open Go.RowKit Go.Extern.Stop Go.Stop Go.Extern
attribute [local go_sem ↓] Go.wp_at_zero Go.wp_at_succ

/-- An error that wraps none, or none at all. -/
def Base0 (b : Value) : Prop := Base b ∨ b = .nilIface

theorem nilU (w : World) : (Instr.typeAssert .nilIface 25 103 true).run Tryd.prog w = .ok (.tuple #[.nilIface, .bool false]) w := by kernel_rfl
theorem nilUs (w : World) : (Instr.typeAssert .nilIface 25 139 true).run Tryd.prog w = .ok (.tuple #[.nilIface, .bool false]) w := by kernel_rfl
theorem nilAs (w : World) : (Instr.typeAssert .nilIface 25 136 true).run Tryd.prog w = .ok (.tuple #[.nilIface, .bool false]) w := by kernel_rfl
set_option maxRecDepth 10000 in
theorem wrapped_base (W : World) (b : Value) (hb : Base0 b) : Calls Tryd.prog 128 #[b] W fun e w' => e = .returned (.slice none 0 0) ∧ W = w' := by
  have h7 := nilU
  have h8 := nilUs
  have h1 := noUE
  have h2 := noUsE
  have h3 := noUX
  have h4 := noUsX
  have h5 := noUN
  have h6 := noUsN
  rcases hb with (⟨k, rfl⟩ | rfl | ⟨p, rfl⟩) | rfl
  iterate 3
    · go_enter Tryd.func128, Tryd.ntmps128
      go_wp2
      go_ret
      exact ⟨rfl, rfl⟩
  · go_enter Tryd.func128, Tryd.ntmps128
    go_wp2
    go_ret
    exact ⟨rfl, rfl⟩

set_option maxRecDepth 10000 in
theorem wrapped_link (W : World) (l : Lnk) (M : List Lnk) (b : Value) (hbb : Base b) (hc : Ch W (l :: M) b) :
    Calls Tryd.prog 128 #[val (l :: M) b] W fun e w' => e = .returned (.slice (some ⟨W.heap.size, 0, none⟩) 1 1) ∧ w' = W.alloc (.cells #[val M b] 25) := by
  obtain ⟨tv, xv, hv⟩ := val_iface hbb M
  rw [hv]
  cases l with
  | step p q =>
    have hhu := hasUS
    have hmu := mUS
    have H := unwrapS W p q _ hc.1
    rw [hv] at H
    have H := Lib.hid H
    clear hc hv
    simp only [val_step]
    go_enter Tryd.func128, Tryd.ntmps128
    go_wp2_with (go_at_call 25; refine H.out.mono ?_; rintro e w' ⟨rfl, rfl⟩)
    go_ret
    exact ⟨rfl, rfl⟩
  | place p q =>
    have hhu := hasUP
    have hmu := mUP
    have H := unwrapP W p q _ hc.1
    rw [hv] at H
    have H := Lib.hid H
    clear hc hv
    simp only [val_place]
    go_enter Tryd.func128, Tryd.ntmps128
    go_wp2_with (go_at_call 26; refine H.out.mono ?_; rintro e w' ⟨rfl, rfl⟩)
    go_ret
    exact ⟨rfl, rfl⟩
  | which p q =>
    have hhu := hasUW
    have hmu := mUW
    have H := unwrapW W p q _ hc.2.1 hc.1
    rw [hv] at H
    have H := Lib.hid H
    clear hc hv
    simp only [val_which]
    go_enter Tryd.func128, Tryd.ntmps128
    go_wp2_with (go_at_call 27; refine H.out.mono ?_; rintro e w' ⟨rfl, rfl⟩)
    go_ret
    exact ⟨rfl, rfl⟩

theorem own_some {w : World} {B n : Nat} {v : Value} {xs : List Value} {e : TypeId} (h : w.ownsRow B e 1 v n xs) (hn : 0 < n) : ∃ g cap, v = .slice (some ⟨g, 0, none⟩) n cap ∧ B ≤ g := by
  rcases h.2 with ⟨_, h0⟩ | ⟨g, cap, cur, rfl, h1, _⟩
  · omega
  · exact ⟨g, cap, rfl, h1⟩
theorem Jk.grown {B : Nat} {a w w' : World} (h : Jk B a w) (hg : w.grownBy w' none) : Jk B a w' :=
  h.trans ⟨hg.os, hg.tape, hg.output, hg.size, fun k hk => .inl (hg.block k hk (by simp))⟩

/-- A link around v. -/
abbrev lk (v : Value) (d : Int) (s : Nat) : Value := .iface 129 (.agg #[v, .int .i64 d, .pointer (some ⟨s, 0, none⟩)])
theorem errinfo : (Tryd.prog.info? 25).map (fun i => (i.zero, i.size, i.bytes)) = some (some .nilIface, 1, 16) := by kernel_rfl

/-- Every search is as it was. -/
def KS (W W' : World) : Prop := ∀ (k : Nat) (cs : Array Value) (fr : Nat × Nat), W.heap[k]? = some (Obj.cells cs 127 fr) → W'.heap[k]? = some (Obj.cells cs 127 fr)
theorem KS.refl (W : World) : KS W W := fun _ _ _ h => h
theorem KS.trans {a b c : World} (h : KS a b) (k : KS b c) : KS a c := fun i cs fr hi => k i cs fr (h i cs fr hi)
theorem KS.alloc {a w : World} (h : KS a w) (o : Obj) : KS a (w.alloc o) := h.trans fun k cs fr hi => by rw [Below.heap_alloc _ _ _ (Array.getElem?_eq_some_iff.1 hi).1]; exact hi
theorem KS.grown {a w w' : World} (h : KS a w) (hg : w.grownBy w' none) : KS a w' := h.trans fun k cs fr hi => by rw [hg.block k (Array.getElem?_eq_some_iff.1 hi).1 (by simp)]; exact hi
theorem KS.setCell {a w : World} {p : Addr} {cs : Array Value} {fr : Nat × Nat} (h : KS a w) (hp : w.heap[p.block]? = some (.cells cs 140 fr)) (u : Value) : KS a (w.setCell p u) := h.trans fun k cs' fr' hi => by
  rw [Below.heap_setCell _ _ _ _ (fun e => by rw [e, hp] at hi; simp at hi)]; exact hi

/-- Behind Unwrap of a link: the variable at block mb holds a slice of one link. -/
def UnPost (B : Nat) (W : World) (mb : Nat) (v : Value) (d : Int) (s : Nat) (w' : World) : Prop :=
  Jk B W w' ∧ KS W w' ∧ ∃ g cap, w'.heap[mb]? = some (.cells #[.slice (some ⟨g, 0, none⟩) 1 cap] 140 (0, 0)) ∧ w'.cell? ⟨g, 0, none⟩ = some (lk v (d + 1) s)

set_option maxRecDepth 10000 in
set_option maxHeartbeats 1600000 in
theorem un1_link (B : Nat) (W : World) (lb mb s : Nat) (l : Lnk) (M : List Lnk) (b : Value) (hbb : Base b) (d : Int) (hd : 0 ≤ d ∧ d ≤ 131072) (hB : B ≤ mb) (hc : Ch W (l :: M) b)
    (hl : W.heap[lb]? = some (.cells #[val (l :: M) b, .int .i64 d, .pointer (some ⟨s, 0, none⟩)] 129 (0, 0))) (hm : W.heap[mb]? = some (.cells #[.slice none 0 0] 140 (0, 0))) :
    Calls Tryd.prog 127 #[.pointer (some ⟨lb, 0, none⟩), .pointer (some ⟨mb, 0, none⟩)] W fun e w' => e = .returned (.tuple #[]) ∧ UnPost B W mb (val M b) d s w' := by
  obtain ⟨i0, hi0, hz0, hz1, hz2⟩ := info_parts errinfo
  have hw := wrapped_link W l M b hbb hc
  obtain ⟨tv, xv, hv⟩ := val_iface hbb M
  rw [hv] at hw ⊢
  have HW := Lib.hid hw
  clear hw hv
  have hlb := (Array.getElem?_eq_some_iff.1 hl).1
  have hmb := (Array.getElem?_eq_some_iff.1 hm).1
  have c0 := cell_obj hl 0 (u := val (l :: M) b) rfl
  have hl1 : (W.alloc (.cells #[.iface tv xv] 25)).heap[lb]? = some (.cells #[val (l :: M) b, .int .i64 d, .pointer (some ⟨s, 0, none⟩)] 129 (0, 0)) := by rw [Below.heap_alloc _ _ _ hlb]; exact hl
  have hm1 : (W.alloc (.cells #[.iface tv xv] 25)).heap[mb]? = some (.cells #[.slice none 0 0] 140 (0, 0)) := by rw [Below.heap_alloc _ _ _ hmb]; exact hm
  have d1 := cell_obj hl1 1 (u := .int .i64 d) rfl
  have d2 := cell_obj hl1 2 (u := .pointer (some ⟨s, 0, none⟩)) rfl
  have m0 := cell_obj hm1 0 (u := .slice none 0 0) rfl
  have e0 := cell_obj (heap_alloc_new W (.cells #[.iface tv xv] 25)) 0 (u := (.iface tv xv)) rfl
  have HM := Lib.hid hm1
  have HJ := Lib.hid ((Jk.refl B W).alloc (.cells #[.iface tv xv] 25))
  have HKW := Lib.hid ((KS.refl W).alloc (.cells #[.iface tv xv] 25))
  clear hl hm hl1 hm1 hc
  go_enter Tryd.func127, Tryd.ntmps127
  go_wp2_with (go_at_call 128; refine HW.out.mono ?_; rintro e w' ⟨rfl, rfl⟩)
  generalize W.alloc (.cells #[.iface tv xv] 25) = W1 at *
  have hmb1 := (Array.getElem?_eq_some_iff.1 HM.out).1
  have hA := Lib.hid ((Jk.refl B W1).alloc (.cells #[lk (.iface tv xv) (d + 1) s] 25))
  refine wp_loop_rounds 2 ?_
  rw [rounds_succ]
  go_wp2_with (at_builtin; refine wpList_append_own _ (by rfl) (.tmp 12) (.tmp 21) _ (by rfl) W1.heap.size 25 i0 _ 1 16 Tryd.underlying140 hi0 hz0 hz1 hz2 rfl (by omega) (.slice none 0 0) 0 [] (by rfl) (World.ownsRow_nil _ _ _ _) ⟨W1.heap.size, 0, none⟩ 1 1 [lk (.iface tv xv) (d + 1) s] (by rfl) (by rfl) (World.news_of_block (cs := #[_]) (t := 25) (fr := (0, 0)) (heap_alloc_new W1 _)) (by simp [Value.oneCell']) (by simp [maxLen]) (by omega) (by simp) ?_; intro v' w2 hown hgrow hiff; obtain ⟨gg, cap, rfl, hgg⟩ := own_some hown (by decide); have hc0 := hown.cells (g := gg) rfl 0 (lk (.iface tv xv) (d + 1) s) rfl; rw [Addr.add_lit, Nat.zero_add] at hc0; have HO := Lib.hid hc0; have HJ2 := Lib.hid (hA.out.grown hgrow); have HK2 := Lib.hid (((KS.refl W1).alloc (.cells #[lk (.iface tv xv) (d + 1) s] 25)).grown hgrow); have hm2 : w2.heap[mb]? = some (.cells #[.slice none 0 0] 140 (0, 0)) := (hgrow.block mb (by simp; omega) (by simp [Value.ownBlock])).trans ((Below.heap_alloc _ _ _ hmb1).trans HM.out); have HM2 := Lib.hid hm2; have m2 := cell_obj hm2 0 (u := .slice none 0 0) rfl; have mf := free_of_one hm2; clear hown hgrow hiff hc0 hm2)
  rw [rounds_succ]
  go_wp2
  go_end0
  refine ⟨rfl, (HJ.out.trans HJ2.out).setCell (p := ⟨mb, 0, none⟩) hB HM2.out (.inr (.inr rfl)) _, (HKW.out.trans HK2.out).setCell (p := ⟨mb, 0, none⟩) HM2.out _, gg, cap, one_setCell HM2.out, ?_⟩
  rw [World.cell?_of_block (w := w2) (a := ⟨gg, 0, none⟩) (Below.heap_setCell _ _ _ _ (by simp only; omega))]
  exact HO.out

set_option maxRecDepth 10000 in
set_option maxHeartbeats 1600000 in
theorem un1_base (W : World) (lb mb s : Nat) (b : Value) (hbb : Base0 b) (d : Int)
    (hl : W.heap[lb]? = some (.cells #[b, .int .i64 d, .pointer (some ⟨s, 0, none⟩)] 129 (0, 0))) :
    Calls Tryd.prog 127 #[.pointer (some ⟨lb, 0, none⟩), .pointer (some ⟨mb, 0, none⟩)] W fun e w' => e = .returned (.tuple #[]) ∧ W = w' := by
  have HW := Lib.hid (wrapped_base W b hbb)
  have c0 := cell_obj hl 0 (u := b) rfl
  clear hl
  go_enter Tryd.func127, Tryd.ntmps127
  go_wp2_with (go_at_call 128; refine HW.out.mono ?_; rintro e w' ⟨rfl, rfl⟩)
  refine wp_loop_rounds 1 ?_
  rw [rounds_succ]
  go_wp2
  go_end0
  exact ⟨rfl, rfl⟩

theorem enterUn1 (args : Array Value) (w : World) : (callFunc 127 args).run Tryd.prog w = .ok (.enter 127 args) w := by kernel_rfl

/-- Behind Unwrap of a link around a layer. -/
def LinksPost (B : Nat) (W : World) (v : Value) (d : Int) (s : Nat) (e : Ending) (w' : World) : Prop :=
  ∃ g cap, e = .returned (.slice (some ⟨g, 0, none⟩) 1 cap) ∧ Jk B W w' ∧ KS W w' ∧ w'.cell? ⟨g, 0, none⟩ = some (lk v (d + 1) s)

set_option maxHeartbeats 1600000 in
theorem linkUn_any (B : Nat) (W : World) (s : Nat) (F : Value) (n : Nat) (l : Lnk) (M : List Lnk) (b : Value) (hbb : Base b) (d : Int) (hd : 0 ≤ d ∧ d ≤ 131072) (hB : B ≤ W.heap.size) (hc : Ch W (l :: M) b) (hs : Srch W s F n) (hn : 0 < n) (hn2 : n ≤ 134217728) :
    Calls Tryd.prog 124 #[.agg #[val (l :: M) b, .int .i64 d, .pointer (some ⟨s, 0, none⟩)]] W (LinksPost B W (val M b) d s) := by
  have hsl := (Array.getElem?_eq_some_iff.1 hs).1
  have j2 := ((Jk.refl B W).alloc (.cells #[val (l :: M) b, .int .i64 d, .pointer (some ⟨s, 0, none⟩)] 129)).alloc (.cells #[.slice none 0 0] 140)
  have hl2 : ((W.alloc (.cells #[val (l :: M) b, .int .i64 d, .pointer (some ⟨s, 0, none⟩)] 129)).alloc (.cells #[.slice none 0 0] 140)).heap[W.heap.size]? = some (.cells #[val (l :: M) b, .int .i64 d, .pointer (some ⟨s, 0, none⟩)] 129 (0, 0)) := by
    rw [Below.heap_alloc _ _ _ (by simp)]; exact heap_alloc_new W _
  have hm2 : ((W.alloc (.cells #[val (l :: M) b, .int .i64 d, .pointer (some ⟨s, 0, none⟩)] 129)).alloc (.cells #[.slice none 0 0] 140)).heap[W.heap.size + 1]? = some (.cells #[.slice none 0 0] 140 (0, 0)) := by
    have := heap_alloc_new (W.alloc (.cells #[val (l :: M) b, .int .i64 d, .pointer (some ⟨s, 0, none⟩)] 129)) (.cells #[.slice none 0 0] 140)
    simpa using this
  have hs2 : Srch ((W.alloc (.cells #[val (l :: M) b, .int .i64 d, .pointer (some ⟨s, 0, none⟩)] 129)).alloc (.cells #[.slice none 0 0] 140)) s F n := by
    unfold Srch
    rw [Below.heap_alloc _ _ _ (by simp; omega), Below.heap_alloc _ _ _ hsl]; exact hs
  have HU := Lib.hid (un1_link B _ W.heap.size (W.heap.size + 1) s l M b hbb d hd (by omega) (hc.kb (((Below.refl _ _).alloc (Nat.le_refl _) _).alloc (by simp) _)) hl2 hm2)
  have n1 := cell_obj hs2 1 (u := .int .i64 n) rfl
  have d2 := cell_obj hl2 2 (u := .pointer (some ⟨s, 0, none⟩)) rfl
  have hnb : (0 : Int) < n := by omega
  have HJ := Lib.hid j2
  have HKJ := Lib.hid (((KS.refl W).alloc (.cells #[val (l :: M) b, .int .i64 d, .pointer (some ⟨s, 0, none⟩)] 129)).alloc (.cells #[.slice none 0 0] 140))
  have hmf : ∀ (fn : Fn) (first cap : Array Value) (w : World), (Instr.makeFunc fn first cap).run Tryd.prog w = .ok (.func fn first cap) w := fun _ _ _ _ => rfl
  clear j2 hl2 hm2 hs2 hs hc
  go_enter Tryd.func124, Tryd.ntmps124
  go_wp2_with (go_at_call 125; refine (quietly_any _ #[.pointer (some ⟨W.heap.size, 0, none⟩), .pointer (some ⟨W.heap.size + 1, 0, none⟩)] enterUn1 _ _ HU.out).mono ?_; rintro e w' ⟨rfl, R1, RK, gg, cap, R2, R3⟩; have m0 := cell_obj R2 0 (u := .slice (some ⟨gg, 0, none⟩) 1 cap) rfl; have HR := Lib.hid R1; have HX := Lib.hid R3; have HK := Lib.hid (HKJ.out.trans RK); clear R1 R2 R3 RK)
  go_ret
  exact ⟨gg, cap, rfl, HJ.out.trans HR.out, HK.out, HX.out⟩

set_option maxHeartbeats 1600000 in
theorem linkUn_base (B : Nat) (W : World) (s : Nat) (F : Value) (n : Nat) (b : Value) (hbb : Base0 b) (d : Int) (hs : Srch W s F n) (hn2 : n ≤ 134217728) :
    Calls Tryd.prog 124 #[.agg #[b, .int .i64 d, .pointer (some ⟨s, 0, none⟩)]] W fun e w' => e = .returned (.slice none 0 0) ∧ Jk B W w' := by
  have hsl := (Array.getElem?_eq_some_iff.1 hs).1
  have j2 := ((Jk.refl B W).alloc (.cells #[b, .int .i64 d, .pointer (some ⟨s, 0, none⟩)] 129)).alloc (.cells #[.slice none 0 0] 140)
  have hl2 : ((W.alloc (.cells #[b, .int .i64 d, .pointer (some ⟨s, 0, none⟩)] 129)).alloc (.cells #[.slice none 0 0] 140)).heap[W.heap.size]? = some (.cells #[b, .int .i64 d, .pointer (some ⟨s, 0, none⟩)] 129 (0, 0)) := by
    rw [Below.heap_alloc _ _ _ (by simp)]; exact heap_alloc_new W _
  have hs2 : Srch ((W.alloc (.cells #[b, .int .i64 d, .pointer (some ⟨s, 0, none⟩)] 129)).alloc (.cells #[.slice none 0 0] 140)) s F n := by
    unfold Srch
    rw [Below.heap_alloc _ _ _ (by simp; omega), Below.heap_alloc _ _ _ hsl]; exact hs
  have HU := Lib.hid (un1_base _ W.heap.size (W.heap.size + 1) s b hbb d hl2)
  have n1 := cell_obj hs2 1 (u := .int .i64 n) rfl
  have d2 := cell_obj hl2 2 (u := .pointer (some ⟨s, 0, none⟩)) rfl
  have HJ := Lib.hid j2
  have hmf : ∀ (fn : Fn) (first cap : Array Value) (w : World), (Instr.makeFunc fn first cap).run Tryd.prog w = .ok (.func fn first cap) w := fun _ _ _ _ => rfl
  clear j2 hl2 hs2 hs hbb
  by_cases hn : 0 < n
  · have hnb : (0 : Int) < n := by omega
    go_enter Tryd.func124, Tryd.ntmps124
    go_wp2_with (go_at_call 125; refine (quietly_any _ #[.pointer (some ⟨W.heap.size, 0, none⟩), .pointer (some ⟨W.heap.size + 1, 0, none⟩)] enterUn1 _ (fun w' => _ = w') HU.out).mono ?_; rintro e w' ⟨rfl, rfl⟩)
    go_ret
    exact ⟨rfl, HJ.out⟩
  · have hnb : (n : Int) ≤ 0 := by omega
    go_enter Tryd.func124, Tryd.ntmps124
    go_wp2
    go_ret
    exact ⟨rfl, HJ.out⟩
end Go.Proofs.YtdnpgdhkeofphaaDoor
