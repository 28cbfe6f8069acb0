/- Unwrap of a link: a link around what the error wraps, or none. No condition. -/
import Derived.Test.YtageblggakfbdaaDoorOopsL
import Derived.Laws.AppendOwn
namespace Go.Proofs.YtageblggakfbdaaDoor
open Go.RowKit Go.Extern.Stop Go.Stop Go.Extern
attribute [local go_sem ↓] Go.wp_at_zero Go.wp_at_succ

/-- An error that wraps none, or none at all. -/
def Base0 (b : Value) : Prop := Base b ∨ b = .nilIface

theorem nilU (w : World) : (Instr.typeAssert .nilIface 25 98 true).run Tryd.prog w = .ok (.tuple #[.nilIface, .bool false]) w := by kernel_rfl
theorem nilUs (w : World) : (Instr.typeAssert .nilIface 25 117 true).run Tryd.prog w = .ok (.tuple #[.nilIface, .bool false]) w := by kernel_rfl
theorem nilAs (w : World) : (Instr.typeAssert .nilIface 25 114 true).run Tryd.prog w = .ok (.tuple #[.nilIface, .bool false]) w := by kernel_rfl
set_option maxRecDepth 10000 in
theorem wrapped_base (W : World) (b : Value) (hb : Base0 b) : Calls Tryd.prog 101 #[b] W fun e w' => e = .returned (.slice none 0 0) ∧ W = w' := by
  have h7 := nilU
  have h8 := nilUs
  have h1 := noUE
  have h2 := noUsE
  have h3 := noUX
  have h4 := noUsX
  have h5 := noUN
  have h6 := noUsN
  rcases hb with (⟨k, rfl⟩ | rfl | ⟨p, rfl⟩) | rfl
  iterate 3
    · go_enter Tryd.func101, Tryd.ntmps101
      go_wp2
      go_ret
      exact ⟨rfl, rfl⟩
  · go_enter Tryd.func101, Tryd.ntmps101
    go_wp2
    go_ret
    exact ⟨rfl, rfl⟩

set_option maxRecDepth 10000 in
theorem wrapped_link (W : World) (l : Lnk) (M : List Lnk) (b : Value) (hbb : Base b) (hc : Ch W (l :: M) b) :
    Calls Tryd.prog 101 #[val (l :: M) b] W fun e w' => e = .returned (.slice (some ⟨W.heap.size, 0, none⟩) 1 1) ∧ w' = W.alloc (.cells #[val M b] 25) := by
  obtain ⟨tv, xv, hv⟩ := val_iface hbb M
  rw [hv]
  cases l with
  | step p q =>
    have hhu := hasUS
    have hmu := mUS
    have H := unwrapS W p q _ hc.1
    rw [hv] at H
    have H := Lib.hid H
    clear hc hv
    simp only [val_step]
    go_enter Tryd.func101, Tryd.ntmps101
    go_wp2_with (go_at_call 23; refine H.out.mono ?_; rintro e w' ⟨rfl, rfl⟩)
    go_ret
    exact ⟨rfl, rfl⟩
  | place p q =>
    have hhu := hasUP
    have hmu := mUP
    have H := unwrapP W p q _ hc.1
    rw [hv] at H
    have H := Lib.hid H
    clear hc hv
    simp only [val_place]
    go_enter Tryd.func101, Tryd.ntmps101
    go_wp2_with (go_at_call 24; refine H.out.mono ?_; rintro e w' ⟨rfl, rfl⟩)
    go_ret
    exact ⟨rfl, rfl⟩
  | which p q =>
    have hhu := hasUW
    have hmu := mUW
    have H := unwrapW W p q _ hc.2.1 hc.1
    rw [hv] at H
    have H := Lib.hid H
    clear hc hv
    simp only [val_which]
    go_enter Tryd.func101, Tryd.ntmps101
    go_wp2_with (go_at_call 25; refine H.out.mono ?_; rintro e w' ⟨rfl, rfl⟩)
    go_ret
    exact ⟨rfl, rfl⟩

theorem own_some {w : World} {B n : Nat} {v : Value} {xs : List Value} {e : TypeId} (h : w.ownsRow B e 1 v n xs) (hn : 0 < n) : ∃ g cap, v = .slice (some ⟨g, 0, none⟩) n cap ∧ B ≤ g := by
  rcases h.2 with ⟨_, h0⟩ | ⟨g, cap, cur, rfl, h1, _⟩
  · omega
  · exact ⟨g, cap, rfl, h1⟩
theorem Jk.grown {B : Nat} {a w w' : World} (h : Jk B a w) (hg : w.grownBy w' none) : Jk B a w' :=
  h.trans ⟨hg.os, hg.tape, hg.output, hg.size, fun k hk => .inl (hg.block k hk (by simp))⟩

theorem Ch.nos {W : World} {s : Nat} {cs : Array Value} : ∀ {L : List Lnk} {b : Value}, Ch W L b → W.heap[s]? = some (.cells cs 125 (0, 0)) → ∀ x ∈ L, x.blk ≠ s
  | [], _, _, _, _, h => by cases h
  | l :: L, b, ⟨h1, _, _, h4⟩, hs, x, hx => by
    rcases List.mem_cons.1 hx with rfl | hx
    · intro e
      rw [e, hs] at h1
      cases x <;> simp [Lnk.obj] at h1
    · exact Ch.nos h4 hs x hx
/-- A link around v. -/
abbrev lk (v : Value) (d : Int) (s : Nat) : Value := .iface 105 (.agg #[v, .int .i64 d, .pointer (some ⟨s, 0, none⟩)])
theorem errinfo : (Tryd.prog.info? 25).map (fun i => (i.zero, i.size, i.bytes)) = some (some .nilIface, 1, 16) := by kernel_rfl

/-- Every search is as it was. -/
def KS (W W' : World) : Prop := ∀ (k : Nat) (cs : Array Value) (fr : Nat × Nat), W.heap[k]? = some (Obj.cells cs 125 fr) → W'.heap[k]? = some (Obj.cells cs 125 fr)
theorem KS.refl (W : World) : KS W W := fun _ _ _ h => h
theorem KS.trans {a b c : World} (h : KS a b) (k : KS b c) : KS a c := fun i cs fr hi => k i cs fr (h i cs fr hi)
theorem KS.alloc {a w : World} (h : KS a w) (o : Obj) : KS a (w.alloc o) := h.trans fun k cs fr hi => by rw [Below.heap_alloc _ _ _ (Array.getElem?_eq_some_iff.1 hi).1]; exact hi
theorem KS.grown {a w w' : World} (h : KS a w) (hg : w.grownBy w' none) : KS a w' := h.trans fun k cs fr hi => by rw [hg.block k (Array.getElem?_eq_some_iff.1 hi).1 (by simp)]; exact hi
theorem KS.setCell {a w : World} {p : Addr} {cs : Array Value} {fr : Nat × Nat} (h : KS a w) (hp : w.heap[p.block]? = some (.cells cs 118 fr)) (u : Value) : KS a (w.setCell p u) := h.trans fun k cs' fr' hi => by
  rw [Below.heap_setCell _ _ _ _ (fun e => by rw [e, hp] at hi; simp at hi)]; exact hi

/-- Behind follow at a layer: a slice of the one error that it wraps, in new memory. -/
def FolPost (W : World) (v : Value) (e : Ending) (w' : World) : Prop := ∃ g, e = .returned (.slice (some ⟨g, 0, none⟩) 1 1) ∧ w'.cell? ⟨g, 0, none⟩ = some v ∧ Below W.heap.size W w'
theorem Jk.ofb {B : Nat} {W W' : World} (h : Below W.heap.size W W') : Jk B W W' := ⟨h.os, h.tape, h.output, h.size, fun k hk => .inl (h.block k hk)⟩
theorem KS.ofb {W W' : World} (h : Below W.heap.size W W') : KS W W' := fun k _ _ hi => (h.block k (Array.getElem?_eq_some_iff.1 hi).1).trans hi
theorem again_any (W : World) (s : Nat) (F : Value) (n : Nat) (t : TypeId) (x : Value) (d : Int) (a : Option Addr) (ln cp : Nat) (hs : Srch W s F n) (hn : n ≤ 262144) :
    Calls Tryd.prog 102 #[.pointer (some ⟨s, 0, none⟩), .iface t x, .int .i64 d, .slice a ln cp] W fun e w' => e = .returned (.bool false) ∧ Below W.heap.size W w' := by
  obtain ⟨mv, hs⟩ := hs
  have hsl := (Array.getElem?_eq_some_iff.1 hs).1
  have b2 := ((Below.refl W.heap.size W).alloc (Nat.le_refl _) (.cells #[.pointer (some ⟨s, 0, none⟩)] 102)).alloc (by simp) (.cells #[.iface t x] 25)
  have n1 := cell_obj ((b2.block s hsl).trans hs) 1 (u := .int .i64 n) rfl
  have hle : (n : Int) ≤ 262144 := by omega
  have HB := Lib.hid b2
  clear hs hsl b2
  go_enter Tryd.func102, Tryd.ntmps102
  go_wp2
  go_ret
  exact ⟨rfl, HB.out⟩
set_option maxRecDepth 10000 in
theorem follow_link (W : World) (s : Nat) (F : Value) (n : Nat) (l : Lnk) (M : List Lnk) (b : Value) (hbb : Base b) (d : Int) (hd : 0 ≤ d ∧ d ≤ 131072) (hc : Ch W (l :: M) b) (hs : Srch W s F n) (hn : n ≤ 262144) :
    Calls Tryd.prog 99 #[.pointer (some ⟨s, 0, none⟩), val (l :: M) b, .int .i64 d] W (FolPost W (val M b)) := by
  have HW := Lib.hid (wrapped_link W l M b hbb hc)
  have b1 := (Below.refl W.heap.size W).alloc (Nat.le_refl _) (.cells #[val M b] 25)
  have hs1 : Srch (W.alloc (.cells #[val M b] 25)) s F n := by
    obtain ⟨mv, hs⟩ := hs
    exact ⟨mv, (b1.block s (Array.getElem?_eq_some_iff.1 hs).1).trans hs⟩
  have HA := Lib.hid (fun t x => again_any (W.alloc (.cells #[val M b] 25)) s F n t x d (some ⟨W.heap.size, 0, none⟩) 1 1 hs1 hn)
  have HE := Lib.hid (cell_obj (heap_alloc_new W (.cells #[val M b] 25)) 0 (u := val M b) rfl)
  have HB := Lib.hid b1
  have hd' : (d == 524288) = false := by simp; omega
  clear b1 hs1 hs hc hd hn
  rw [show val (l :: M) b = .iface l.ty (.pointer (some ⟨l.blk, 0, none⟩)) from rfl] at HW ⊢
  obtain ⟨u, hu⟩ : ∃ u, u = val M b := ⟨_, rfl⟩
  rw [← hu] at HW HA HE HB ⊢
  clear hu
  go_enter Tryd.func99, Tryd.ntmps99
  go_wp2_with fail
  refine HW.out.mono ?_
  rintro e w' ⟨rfl, rfl⟩
  go_wp2_with fail
  refine (HA.out _ _).mono ?_
  rintro e w2 ⟨rfl, b2⟩
  have B2 := Lib.hid (HB.out.trans (b2.mono HB.out.size))
  have HE2 := Lib.hid (show w2.cell? ⟨W.heap.size, 0, none⟩ = some u from by rw [World.cell?_of_block (b2.block W.heap.size (World.block_lt_of_cell? _ _ HE.out))]; exact HE.out)
  clear b2
  go_wp2_with fail
  go_ret
  exact ⟨_, rfl, HE2.out, B2.out⟩
set_option maxRecDepth 10000 in
theorem follow_base (W : World) (s : Nat) (b : Value) (hb : Base0 b) (d : Int) : Calls Tryd.prog 99 #[.pointer (some ⟨s, 0, none⟩), b, .int .i64 d] W fun e w' => e = .returned (.slice none 0 0) ∧ W = w' := by
  have HW := Lib.hid (wrapped_base W b hb)
  clear hb
  go_enter Tryd.func99, Tryd.ntmps99
  go_wp2_with (go_at_call 101; refine HW.out.mono ?_; rintro e w' ⟨rfl, rfl⟩)
  go_ret
  exact ⟨rfl, rfl⟩

/-- Behind Unwrap of a link: the variable at block mb holds a slice of one link. -/
def UnPost (B : Nat) (W : World) (mb : Nat) (v : Value) (d : Int) (s : Nat) (w' : World) : Prop :=
  Jk B W w' ∧ KS W w' ∧ ∃ g cap, w'.heap[mb]? = some (.cells #[.slice (some ⟨g, 0, none⟩) 1 cap] 118 (0, 0)) ∧ w'.cell? ⟨g, 0, none⟩ = some (lk v (d + 1) s)

set_option maxRecDepth 10000 in
set_option maxHeartbeats 1600000 in
theorem un1_link (B : Nat) (W : World) (lb mb s : Nat) (F : Value) (n : Nat) (l : Lnk) (M : List Lnk) (b : Value) (hbb : Base b) (d : Int) (hd : 0 ≤ d ∧ d ≤ 131072) (hB : B ≤ mb) (hc : Ch W (l :: M) b) (hs : Srch W s F n) (hn : n ≤ 262144)
    (hl : W.heap[lb]? = some (.cells #[val (l :: M) b, .int .i64 d, .pointer (some ⟨s, 0, none⟩)] 105 (0, 0))) (hm : W.heap[mb]? = some (.cells #[.slice none 0 0] 118 (0, 0))) :
    Calls Tryd.prog 98 #[.pointer (some ⟨lb, 0, none⟩), .pointer (some ⟨mb, 0, none⟩)] W fun e w' => e = .returned (.tuple #[]) ∧ UnPost B W mb (val M b) d s w' := by
  obtain ⟨i0, hi0, hz0, hz1, hz2⟩ := info_parts errinfo
  have hw := follow_link W s F n l M b hbb d hd hc hs hn
  obtain ⟨tv, xv, hv⟩ := val_iface hbb M
  rw [hv] at hw ⊢
  have HW := Lib.hid hw
  clear hw hv
  have hlb := (Array.getElem?_eq_some_iff.1 hl).1
  have hmb := (Array.getElem?_eq_some_iff.1 hm).1
  have c0 := cell_obj hl 0 (u := val (l :: M) b) rfl
  have c1 := cell_obj hl 1 (u := .int .i64 d) rfl
  have c2 := cell_obj hl 2 (u := .pointer (some ⟨s, 0, none⟩)) rfl
  have HL0 := Lib.hid hl
  have HM0 := Lib.hid hm
  clear hl hm hc hs
  rw [show val (l :: M) b = .iface l.ty (.pointer (some ⟨l.blk, 0, none⟩)) from rfl] at HW HL0 c0
  have hdw : IntKind.i64.wrap (d + 1) = d + 1 := IntWalk.i64_in _ (by omega)
  go_enter Tryd.func98, Tryd.ntmps98
  go_wp2_with fail
  refine HW.out.mono ?_
  rintro e W1 ⟨g0, rfl, e0, b1⟩
  have hl1 := (b1.block lb hlb).trans HL0.out
  have hm1 := (b1.block mb hmb).trans HM0.out
  have d1 := cell_obj hl1 1 (u := .int .i64 d) rfl
  have d2 := cell_obj hl1 2 (u := .pointer (some ⟨s, 0, none⟩)) rfl
  have m0 := cell_obj hm1 0 (u := .slice none 0 0) rfl
  have HM := Lib.hid hm1
  have HJ := Lib.hid (Jk.ofb (B := B) b1)
  have HKW := Lib.hid (KS.ofb b1)
  clear hl1 hm1 b1 HW c0 c1 c2
  have hmb1 := (Array.getElem?_eq_some_iff.1 HM.out).1
  have hA := Lib.hid ((Jk.refl B W1).alloc (.cells #[lk (.iface tv xv) (d + 1) s] 25))
  go_wp2_with fail
  refine wp_loop_rounds 2 ?_
  rw [rounds_succ]
  go_wp2_with (at_builtin; refine wpList_append_own _ (by rfl) (.tmp 16) (.tmp 25) _ (by rfl) W1.heap.size 25 i0 _ 1 16 Tryd.underlying118 hi0 hz0 hz1 hz2 rfl (by omega) (.slice none 0 0) 0 [] (by rfl) (World.ownsRow_nil _ _ _ _) ⟨W1.heap.size, 0, none⟩ 1 1 [lk (.iface tv xv) (d + 1) s] (by rfl) (by rfl) (World.news_of_block (cs := #[_]) (t := 25) (fr := (0, 0)) (heap_alloc_new W1 _)) (by simp [Value.oneCell']) (by simp [maxLen]) (by omega) (by simp) ?_; intro v' w2 hown hgrow hiff; obtain ⟨gg, cap, rfl, hgg⟩ := own_some hown (by decide); have hc0 := hown.cells (g := gg) rfl 0 (lk (.iface tv xv) (d + 1) s) rfl; rw [Addr.add_lit, Nat.zero_add] at hc0; have HO := Lib.hid hc0; have HJ2 := Lib.hid (hA.out.grown hgrow); have HK2 := Lib.hid (((KS.refl W1).alloc (.cells #[lk (.iface tv xv) (d + 1) s] 25)).grown hgrow); have hm2 : w2.heap[mb]? = some (.cells #[.slice none 0 0] 118 (0, 0)) := (hgrow.block mb (by simp; omega) (by simp [Value.ownBlock])).trans ((Below.heap_alloc _ _ _ hmb1).trans HM.out); have HM2 := Lib.hid hm2; have m2 := cell_obj hm2 0 (u := .slice none 0 0) rfl; have mf := free_of_one hm2; clear hown hgrow hiff hc0 hm2)
  rw [rounds_succ]
  go_wp2
  go_end0
  refine ⟨rfl, (HJ.out.trans HJ2.out).setCell (p := ⟨mb, 0, none⟩) hB HM2.out (.inr (.inr rfl)) _, (HKW.out.trans HK2.out).setCell (p := ⟨mb, 0, none⟩) HM2.out _, gg, cap, one_setCell HM2.out, ?_⟩
  rw [World.cell?_of_block (w := w2) (a := ⟨gg, 0, none⟩) (Below.heap_setCell _ _ _ _ (by simp only; omega))]
  exact HO.out

set_option maxRecDepth 10000 in
set_option maxHeartbeats 1600000 in
theorem un1_base (W : World) (lb mb s : Nat) (b : Value) (hbb : Base0 b) (d : Int)
    (hl : W.heap[lb]? = some (.cells #[b, .int .i64 d, .pointer (some ⟨s, 0, none⟩)] 105 (0, 0))) :
    Calls Tryd.prog 98 #[.pointer (some ⟨lb, 0, none⟩), .pointer (some ⟨mb, 0, none⟩)] W fun e w' => e = .returned (.tuple #[]) ∧ W = w' := by
  have HW := Lib.hid (follow_base W s b hbb d)
  have c0 := cell_obj hl 0 (u := b) rfl
  have c1 := cell_obj hl 1 (u := .int .i64 d) rfl
  have c2 := cell_obj hl 2 (u := .pointer (some ⟨s, 0, none⟩)) rfl
  clear hl
  go_enter Tryd.func98, Tryd.ntmps98
  go_wp2_with (go_at_call 99; refine HW.out.mono ?_; rintro e w' ⟨rfl, rfl⟩)
  refine wp_loop_rounds 1 ?_
  rw [rounds_succ]
  go_wp2
  go_end0
  exact ⟨rfl, rfl⟩

theorem enterUn1 (args : Array Value) (w : World) : (callFunc 98 args).run Tryd.prog w = .ok (.enter 98 args) w := by kernel_rfl

/-- Behind Unwrap of a link around a layer. -/
def LinksPost (B : Nat) (W : World) (v : Value) (d : Int) (s : Nat) (F : Value) (n : Nat) (e : Ending) (w' : World) : Prop :=
  ∃ g cap, e = .returned (.slice (some ⟨g, 0, none⟩) 1 cap) ∧ Jk B W w' ∧ Srch w' s F n ∧ w'.cell? ⟨g, 0, none⟩ = some (lk v (d + 1) s)

set_option maxHeartbeats 1600000 in
theorem linkUn_any (B : Nat) (W : World) (s : Nat) (F : Value) (n : Nat) (l : Lnk) (M : List Lnk) (b : Value) (hbb : Base b) (d : Int) (hd : 0 ≤ d ∧ d ≤ 131072) (hB : B ≤ W.heap.size) (hBs : B ≤ s) (hc : Ch W (l :: M) b) (hs : Srch W s F n) (hn : n ≤ 262144) :
    Calls Tryd.prog 95 #[.agg #[val (l :: M) b, .int .i64 d, .pointer (some ⟨s, 0, none⟩)]] W (LinksPost B W (val M b) d s F n) := by
  have hsl := hs.lt
  have b2 := ((Below.refl W.heap.size W).alloc (Nat.le_refl _) (.cells #[val (l :: M) b, .int .i64 d, .pointer (some ⟨s, 0, none⟩)] 105)).alloc (by simp) (.cells #[.slice none 0 0] 118)
  have hl2 : ((W.alloc (.cells #[val (l :: M) b, .int .i64 d, .pointer (some ⟨s, 0, none⟩)] 105)).alloc (.cells #[.slice none 0 0] 118)).heap[W.heap.size]? = some (.cells #[val (l :: M) b, .int .i64 d, .pointer (some ⟨s, 0, none⟩)] 105 (0, 0)) := by
    rw [Below.heap_alloc _ _ _ (by simp)]; exact heap_alloc_new W _
  have hm2 : ((W.alloc (.cells #[val (l :: M) b, .int .i64 d, .pointer (some ⟨s, 0, none⟩)] 105)).alloc (.cells #[.slice none 0 0] 118)).heap[W.heap.size + 1]? = some (.cells #[.slice none 0 0] 118 (0, 0)) := by
    have := heap_alloc_new (W.alloc (.cells #[val (l :: M) b, .int .i64 d, .pointer (some ⟨s, 0, none⟩)] 105)) (.cells #[.slice none 0 0] 118)
    simpa using this
  have hs2 : Srch ((W.alloc (.cells #[val (l :: M) b, .int .i64 d, .pointer (some ⟨s, 0, none⟩)] 105)).alloc (.cells #[.slice none 0 0] 118)) s F n := by
    unfold Srch
    rw [b2.block s hsl]; exact hs
  have HSP := Lib.hid (show Calls Tryd.prog 92 #[.pointer (some ⟨s, 0, none⟩), .int .i64 0] _ _ from spend_any _ s F n 0 (by omega) hs2)
  have d2 := cell_obj hl2 2 (u := .pointer (some ⟨s, 0, none⟩)) rfl
  have HJ := Lib.hid (Jk.ofb (B := B) b2)
  have HL := Lib.hid hl2
  have HM := Lib.hid hm2
  have HS := Lib.hid hs2
  have HC := Lib.hid (hc.kb b2)
  have HSZ : Hid (((W.alloc (.cells #[val (l :: M) b, .int .i64 d, .pointer (some ⟨s, 0, none⟩)] 105)).alloc (.cells #[.slice none 0 0] 118)).heap.size = W.heap.size + 2) := Lib.hid (by simp)
  have hmf : ∀ (fn : Fn) (first cap : Array Value) (w : World), (Instr.makeFunc fn first cap).run Tryd.prog w = .ok (.func fn first cap) w := fun _ _ _ _ => rfl
  clear hl2 hm2 hs2 hs hc b2
  obtain ⟨u, hu⟩ : ∃ u, u = val (l :: M) b := ⟨_, rfl⟩
  have HU := Lib.hid hu
  rw [← hu] at HSP d2 HJ HL HM HS HC HSZ ⊢
  clear hu
  go_enter Tryd.func95, Tryd.ntmps95
  go_wp2_with fail
  generalize (W.alloc (.cells #[u, .int .i64 d, .pointer (some ⟨s, 0, none⟩)] 105)).alloc (.cells #[.slice none 0 0] 118) = W2 at *
  refine HSP.out.mono ?_
  rintro e W3 ⟨rfl, h3, o3⟩
  have hlb := (Array.getElem?_eq_some_iff.1 HL.out).1
  have hmb := (Array.getElem?_eq_some_iff.1 HM.out).1
  have hl3 := (o3.block _ hlb (by omega)).trans HL.out
  have hm3 := (o3.block _ hmb (by omega)).trans HM.out
  have j3 := Jk.srch (B := B) HS.out hBs o3
  have hc3 : Ch W3 (l :: M) b := by
    refine HC.out.only o3 (fun x hx e => ?_)
    obtain ⟨mv, hs⟩ := HS.out
    exact Ch.nos HC.out hs x hx e
  rw [HU.out] at hl3
  have HUN := Lib.hid (un1_link B W3 W.heap.size (W.heap.size + 1) s F n l M b hbb d hd (by omega) hc3 h3 hn hl3 hm3)
  have HJ3 := Lib.hid j3
  have HS3 := Lib.hid h3
  clear h3 o3 hlb hmb hl3 hm3 j3 hc3 HSP d2
  go_wp2_with fail
  refine (quietly_any _ #[.pointer (some ⟨W.heap.size, 0, none⟩), .pointer (some ⟨W.heap.size + 1, 0, none⟩)] enterUn1 W3 _ HUN.out).mono ?_
  rintro e W4 ⟨rfl, R1, RK, gg, cap, R2, R3⟩
  have m0 := cell_obj R2 0 (u := .slice (some ⟨gg, 0, none⟩) 1 cap) rfl
  have HR := Lib.hid R1
  have HX := Lib.hid R3
  have HK : Hid (Srch W4 s F n) := Lib.hid (by obtain ⟨mv, hs⟩ := HS3.out; exact ⟨mv, RK _ _ _ hs⟩)
  clear R1 R2 R3 RK HUN
  go_wp2_with fail
  go_ret
  exact ⟨gg, cap, rfl, (HJ.out.trans HJ3.out).trans HR.out, HK.out, HX.out⟩

set_option maxHeartbeats 1600000 in
theorem linkUn_base (B : Nat) (W : World) (s : Nat) (F : Value) (n : Nat) (b : Value) (hbb : Base0 b) (d : Int) (hBs : B ≤ s) (hs : Srch W s F n) (hn : n ≤ 268435456) :
    Calls Tryd.prog 95 #[.agg #[b, .int .i64 d, .pointer (some ⟨s, 0, none⟩)]] W fun e w' => e = .returned (.slice none 0 0) ∧ Jk B W w' := by
  have hsl := hs.lt
  have b2 := ((Below.refl W.heap.size W).alloc (Nat.le_refl _) (.cells #[b, .int .i64 d, .pointer (some ⟨s, 0, none⟩)] 105)).alloc (by simp) (.cells #[.slice none 0 0] 118)
  have hl2 : ((W.alloc (.cells #[b, .int .i64 d, .pointer (some ⟨s, 0, none⟩)] 105)).alloc (.cells #[.slice none 0 0] 118)).heap[W.heap.size]? = some (.cells #[b, .int .i64 d, .pointer (some ⟨s, 0, none⟩)] 105 (0, 0)) := by
    rw [Below.heap_alloc _ _ _ (by simp)]; exact heap_alloc_new W _
  have hm2 : ((W.alloc (.cells #[b, .int .i64 d, .pointer (some ⟨s, 0, none⟩)] 105)).alloc (.cells #[.slice none 0 0] 118)).heap[W.heap.size + 1]? = some (.cells #[.slice none 0 0] 118 (0, 0)) := by
    have := heap_alloc_new (W.alloc (.cells #[b, .int .i64 d, .pointer (some ⟨s, 0, none⟩)] 105)) (.cells #[.slice none 0 0] 118)
    simpa using this
  have hs2 : Srch ((W.alloc (.cells #[b, .int .i64 d, .pointer (some ⟨s, 0, none⟩)] 105)).alloc (.cells #[.slice none 0 0] 118)) s F n := by
    unfold Srch
    rw [b2.block s hsl]; exact hs
  have HSP := Lib.hid (show Calls Tryd.prog 92 #[.pointer (some ⟨s, 0, none⟩), .int .i64 0] _ _ from spend_any _ s F n 0 (by omega) hs2)
  have d2 := cell_obj hl2 2 (u := .pointer (some ⟨s, 0, none⟩)) rfl
  have HJ := Lib.hid (Jk.ofb (B := B) b2)
  have HL := Lib.hid hl2
  have HM := Lib.hid hm2
  have HS := Lib.hid hs2
  have HSZ : Hid (((W.alloc (.cells #[b, .int .i64 d, .pointer (some ⟨s, 0, none⟩)] 105)).alloc (.cells #[.slice none 0 0] 118)).heap.size = W.heap.size + 2) := Lib.hid (by simp)
  have hmf : ∀ (fn : Fn) (first cap : Array Value) (w : World), (Instr.makeFunc fn first cap).run Tryd.prog w = .ok (.func fn first cap) w := fun _ _ _ _ => rfl
  clear hl2 hm2 hs2 hs b2
  go_enter Tryd.func95, Tryd.ntmps95
  go_wp2_with fail
  generalize (W.alloc (.cells #[b, .int .i64 d, .pointer (some ⟨s, 0, none⟩)] 105)).alloc (.cells #[.slice none 0 0] 118) = W2 at *
  refine HSP.out.mono ?_
  rintro e W3 ⟨rfl, h3, o3⟩
  have hlb := (Array.getElem?_eq_some_iff.1 HL.out).1
  have hmb := (Array.getElem?_eq_some_iff.1 HM.out).1
  have HU := Lib.hid (un1_base W3 W.heap.size (W.heap.size + 1) s b hbb d ((o3.block _ hlb (by omega)).trans HL.out))
  have m0 := cell_obj ((o3.block _ hmb (by omega)).trans HM.out) 0 (u := .slice none 0 0) rfl
  have HJ3 := Lib.hid (Jk.srch (B := B) HS.out hBs o3)
  clear h3 o3 hlb hmb HSP d2
  go_wp2_with fail
  refine (quietly_any _ #[.pointer (some ⟨W.heap.size, 0, none⟩), .pointer (some ⟨W.heap.size + 1, 0, none⟩)] enterUn1 W3 (fun w' => W3 = w') HU.out).mono ?_
  rintro e W4 ⟨rfl, rfl⟩
  go_wp2_with fail
  go_ret
  exact ⟨rfl, HJ.out.trans HJ3.out⟩
end Go.Proofs.YtageblggakfbdaaDoor
