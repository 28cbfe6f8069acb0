/- What the small calls of the octet Reader do: NewReader, fail, Lack, Left, take. · What take of the octet Reader does. · What Raw, U8, U32 and U64 of the octet Reader do. · What Var of the octet Reader does. -/
import Derived.Test.YtbpccbhlggcmfaaGreatDoorOctBits
import Derived.Test.YtbpccbhlggcmfaaGreatDoorGenPick
namespace Go.Proofs.YtbpccbhlggcmfaaGreatDoor
open Go.RowKit

/-- The slice v holds the bytes l in w, at an address written out. -/
def SeenR (w : World) (v : Value) (l : List Int) : Prop :=
  (v = .slice none 0 0 ∧ l = []) ∨ ∃ g o cap, v = .slice (some ⟨g, o, none⟩) l.length cap ∧ l.length ≤ cap ∧ ∀ j u, (us l)[j]? = some u → w.cell? ⟨g, o + j, none⟩ = some u
theorem SeenR.seen {w : World} {v : Value} {l : List Int} (h : SeenR w v l) : Seen w v l := by
  rcases h with h | ⟨g, o, cap, rfl, hc, hu⟩
  · exact .inl h
  · exact .inr ⟨_, cap, rfl, hc, fun j u hj => by rw [Addr.add_lit]; exact hu j u hj⟩
theorem SeenR.kept {w w' : World} {v : Value} {l : List Int} (h : SeenR w v l) (hb : ∀ k, v.ownBlock = some k → w'.heap[k]? = w.heap[k]?) : SeenR w' v l := by
  rcases h with h | ⟨g, o, cap, rfl, hc, hu⟩
  · exact .inl h
  · refine .inr ⟨g, o, cap, rfl, hc, fun j u hj => ?_⟩
    rw [World.cell?_of_block (w := w) (a := ⟨g, o + j, none⟩) (hb _ rfl)]
    exact hu j u hj
theorem SeenR.nil (w : World) : SeenR w (.slice none 0 0) [] := .inl ⟨rfl, rfl⟩
theorem SeenR.own {w : World} {B : Nat} {v : Value} {l : List Int} (h : w.ownsRow B 5 1 v l.length (us l)) : SeenR w v l := by
  have hc : ∀ g, v.ownBlock = some g → _ := fun g hg => h.cells (g := g) hg
  rcases h.2 with ⟨rfl, h0⟩ | ⟨g, cap, cur, rfl, _, _, hn, _⟩
  · exact .inl ⟨rfl, List.eq_nil_of_length_eq_zero h0⟩
  · exact .inr ⟨g, 0, cap, rfl, hn, fun j u hj => by have := hc _ rfl j u hj; rw [Addr.add_lit] at this; exact this⟩

/-- The object at block b: the slice v, which holds the bytes l, and the mark lk. -/
structure Rd (T B : Nat) (w : World) (b : Nat) (v : Value) (l : List Int) (lk : Bool) : Prop where
  base : B ≤ b
  at_ : w.heap[b]? = some (.cells #[v, .bool lk] T (0, 0))
  seen : SeenR w v l
  own : ∀ k, v.ownBlock = some k → B ≤ k ∧ k ≠ b ∧ k < w.heap.size
  ok : Okb l
  small : l.length ≤ 140737488351232
  lacks : lk = true → l = []

/-- Behind a call that may have written to that object and to no other. -/
def Rdd (T B : Nat) (w : World) (b : Nat) (v : Value) (l : List Int) (lk : Bool) (w' : World) : Prop :=
  ∃ v', Rd T B w' b v' l lk ∧ Only (fun k => k = b) w w' ∧ ∀ k, v'.ownBlock = some k → v.ownBlock = some k

section
variable {T B b : Nat} {w w1 w' : World} {v v1 : Value} {l l1 : List Int} {lk lk1 : Bool}
theorem Rd.lt (h : Rd T B w b v l lk) : b < w.heap.size := (Array.getElem?_eq_some_iff.1 h.at_).1
theorem Rd.c0 (h : Rd T B w b v l lk) : w.cell? ⟨b, 0, none⟩ = some v := by rw [cell_of_row w b 0 _ _ _ h.at_]; rfl
theorem Rd.c1 (h : Rd T B w b v l lk) : w.cell? ⟨b, 1, none⟩ = some (.bool lk) := by rw [cell_of_row w b 1 _ _ _ h.at_]; rfl
theorem Rd.kept (h : Rd T B w b v l lk) {S : Nat → Prop} (ho : Only S w w') (hb : ¬ S b) (hv : ∀ k, v.ownBlock = some k → ¬ S k) : Rd T B w' b v l lk :=
  ⟨h.base, (ho.block b h.lt hb).trans h.at_, h.seen.kept fun k hk => ho.block k (h.own k hk).2.2 (hv k hk), fun k hk => ⟨(h.own k hk).1, (h.own k hk).2.1, Nat.lt_of_lt_of_le (h.own k hk).2.2 ho.size⟩, h.ok, h.small, h.lacks⟩
theorem Rd.kb (h : Rd T B w b v l lk) (hb : Below w.heap.size w w') : Rd T B w' b v l lk := h.kept (S := fun _ => False) (Only.of_below hb) (fun h => h) (fun _ _ h => h)
theorem Rd.below (h : Rd T B w b v l lk) (o : Only (fun k => k = b) w w') : Below B w w' := o.below (Nat.le_trans h.base (Nat.le_of_lt h.lt)) fun _ hk => hk ▸ h.base
theorem Rdd.refl (h : Rd T B w b v l lk) : Rdd T B w b v l lk w := ⟨v, h, Only.refl _ _, fun _ h => h⟩
theorem Rdd.trans (ho : Only (fun k => k = b) w w1) (hv : ∀ k, v1.ownBlock = some k → v.ownBlock = some k) (h2 : Rdd T B w1 b v1 l lk w') : Rdd T B w b v l lk w' := by
  obtain ⟨v2, hr, ho2, hv2⟩ := h2
  exact ⟨v2, hr, ho.trans ho2 (fun _ h => h) (fun _ _ h => h), fun k hk => hv k (hv2 k hk)⟩
end


theorem two_set0 {w : World} {b : Nat} {x y u : Value} {t : TypeId} (h : w.heap[b]? = some (.cells #[x, y] t (0, 0))) : (w.setCell ⟨b, 0, none⟩ u).heap[b]? = some (.cells #[u, y] t (0, 0)) := by
  have hlt := lt_of_block h
  have h' : w.heap[b] = .cells #[x, y] t (0, 0) := by simpa [Array.getElem?_eq_getElem hlt] using h
  show (w.heap.modify b _)[b]? = _
  rw [Array.getElem?_eq_getElem (by simpa using hlt), Array.getElem_modify_self, h']
  rfl
theorem two_set1 {w : World} {b : Nat} {x y u : Value} {t : TypeId} (h : w.heap[b]? = some (.cells #[x, y] t (0, 0))) : (w.setCell ⟨b, 1, none⟩ u).heap[b]? = some (.cells #[x, u] t (0, 0)) := by
  have hlt := lt_of_block h
  have h' : w.heap[b] = .cells #[x, y] t (0, 0) := by simpa [Array.getElem?_eq_getElem hlt] using h
  show (w.heap.modify b _)[b]? = _
  rw [Array.getElem?_eq_getElem (by simpa using hlt), Array.getElem_modify_self, h']
  rfl

set_option maxHeartbeats 400000 in
theorem fail_any (B : Nat) (w : World) (b : Nat) (v : Value) (l : List Int) (lk : Bool) (h : Rd 188 B w b v l lk) :
    Calls Tryz.prog 110 #[.pointer (some ⟨b, 0, none⟩)] w fun e w' => e = .returned (.tuple #[]) ∧ Rdd 188 B w b v [] true w' := by
  have c0 := h.c0
  have c1 := h.c1
  have f0 := frozen_of_row w b 0 _ _ h.at_
  have f1 := frozen_of_row w b 1 _ _ h.at_
  have h1 := two_set1 (u := .bool true) (two_set0 (u := .slice none 0 0) h.at_)
  have R : Rdd 188 B w b v [] true ((w.setCell ⟨b, 0, none⟩ (.slice none 0 0)).setCell ⟨b, 1, none⟩ (.bool true)) :=
    ⟨_, ⟨h.base, h1, SeenR.nil _, fun k hk => by simp [Value.ownBlock] at hk, Okb.nil, by simp, fun _ => rfl⟩, ((Only.refl (fun k => k = b) w).setCell (p := ⟨b, 0, none⟩) rfl _).setCell (p := ⟨b, 1, none⟩) rfl _, fun k hk => by simp [Value.ownBlock] at hk⟩
  have HR := Lib.hid R
  clear R h h1
  go_enter Tryz.func110, Tryz.ntmps110
  go_wp2
  go_end0
  exact ⟨rfl, HR.out⟩

theorem lack_any (B : Nat) (w : World) (b : Nat) (v : Value) (l : List Int) (lk : Bool) (h : Rd 188 B w b v l lk) :
    Calls Tryz.prog 95 #[.pointer (some ⟨b, 0, none⟩)] w fun e w' => e = .returned (.bool lk) ∧ w = w' := by
  have c1 := h.c1
  clear h
  go_enter Tryz.func95, Tryz.ntmps95
  go_wp2
  go_ret
  exact ⟨rfl, rfl⟩

theorem left_any (B : Nat) (w : World) (b : Nat) (v : Value) (l : List Int) (lk : Bool) (h : Rd 188 B w b v l lk) :
    Calls Tryz.prog 96 #[.pointer (some ⟨b, 0, none⟩)] w fun e w' => e = .returned (.int .i64 l.length) ∧ w = w' := by
  have c0 := h.c0
  rcases h.seen with ⟨rfl, rfl⟩ | ⟨g, o, cap, rfl, hc, hu⟩
  all_goals
    clear h
    go_enter Tryz.func96, Tryz.ntmps96
    go_wp2
    go_ret
    exact ⟨rfl, rfl⟩

theorem newreader_any (w : World) (B : Nat) (hB : B ≤ w.heap.size) (u : Value) (l : List Int) (hl : l.length ≤ 140737488351232) (hk : Okb l) (hs : Seen w u l) :
    Calls Tryz.prog 81 #[u] w fun e w' => ∃ b v, e = .returned (.pointer (some ⟨b, 0, none⟩)) ∧ Rd 188 B w' b v l false ∧ Below w.heap.size w w' ∧ w.heap.size ≤ b ∧ (∀ k, v.ownBlock = some k → w.heap.size ≤ k) := by
  go_enter Tryz.func81, Tryz.ntmps81
  go_wp2_with (go_at_call 49; refine (clone_any _ _ l hl hs).mono ?_; rintro e w1 ⟨v', rfl, R1, R2⟩; have HR1 := Lib.hid R1; have HR2 := Lib.hid R2; rcases R1.2 with ⟨rfl, _⟩ | ⟨g, gc, cur, rfl, hbg, hg, rest⟩ <;> clear R1 R2)
  all_goals
    go_ret
    have hz := HR2.out.size
    refine ⟨w1.heap.size, _, rfl, ⟨by omega, heap_alloc_new w1 _, (SeenR.own HR1.out).kept ?_, ?_, hk, hl, by simp⟩, HR2.out.alloc hz _, hz, ?_⟩
    · intro k hk
      exact Below.heap_alloc _ _ _ (HR1.out.lt k hk).2
    · intro k hk
      have := HR1.out.lt k hk
      exact ⟨by omega, by omega, by simp; omega⟩
    · intro k hk
      exact (HR1.out.lt k hk).1
end Go.Proofs.YtbpccbhlggcmfaaGreatDoor
namespace Go.Proofs.YtbpccbhlggcmfaaGreatDoor
open Go.RowKit

section
variable {T B b : Nat} {w : World} {v x : Value} {l l' : List Int} {lk : Bool}
theorem Rd.store (h : Rd T B w b v l lk) (hs : SeenR w x l') (ho : ∀ k, x.ownBlock = some k → v.ownBlock = some k) (hok : Okb l') (hsm : l'.length ≤ l.length) (hl : lk = true → l' = []) :
    Rdd T B w b v l' lk (w.setCell ⟨b, 0, none⟩ x) := by
  have hk : ∀ k, x.ownBlock = some k → (w.setCell ⟨b, 0, none⟩ x).heap[k]? = w.heap[k]? := fun k hk => Below.heap_setCell _ _ _ _ (h.own k (ho k hk)).2.1
  refine ⟨x, ⟨h.base, two_set0 h.at_, hs.kept hk, fun k hk => ?_, hok, Nat.le_trans hsm h.small, hl⟩, (Only.refl (fun k => k = b) w).setCell (p := ⟨b, 0, none⟩) rfl _, ho⟩
  have := h.own k (ho k hk)
  exact ⟨this.1, this.2.1, by simpa [World.setCell] using this.2.2⟩
theorem Rd.seen_in (h : Rd T B w b v l lk) (hs : SeenR w x l') (ho : ∀ k, x.ownBlock = some k → v.ownBlock = some k) (y : Value) : SeenR (w.setCell ⟨b, 0, none⟩ y) x l' :=
  hs.kept fun k hk => Below.heap_setCell _ _ _ _ (h.own k (ho k hk)).2.1
end
theorem seen_take {w : World} {l : List Int} {g o cap k : Nat} (hk : k ≤ l.length) (hc : l.length ≤ cap) (hu : ∀ j u, (us l)[j]? = some u → w.cell? ⟨g, o + j, none⟩ = some u) : SeenR w (.slice (some ⟨g, o, none⟩) k cap) (l.take k) := by
  have e : (l.take k).length = k := by rw [List.length_take]; omega
  refine .inr ⟨g, o, cap, by rw [e], by omega, fun j u hj => hu j u ?_⟩
  have hj2 : j < k := by
    have := (List.getElem?_eq_some_iff.1 hj).1
    simp [us] at this; omega
  simpa [us, List.getElem?_take, hj2] using hj
theorem seen_drop {w : World} {l : List Int} {g o cap k : Nat} (hk : k ≤ l.length) (hc : l.length ≤ cap) (hu : ∀ j u, (us l)[j]? = some u → w.cell? ⟨g, o + j, none⟩ = some u) : SeenR w (.slice (some ⟨g, o + k, none⟩) (l.length - k) (cap - k)) (l.drop k) := by
  refine .inr ⟨g, o + k, cap - k, by rw [List.length_drop], by rw [List.length_drop]; omega, fun j u hj => ?_⟩
  have := hu (k + j) u (by simpa [us, List.getElem?_drop] using hj)
  rw [Nat.add_assoc]; exact this
theorem seen_none {w : World} {l : List Int} {g o k : Nat} (hk : l.length ≤ k) : SeenR w (.slice (some ⟨g, o, none⟩) (l.length - k) 0) (l.drop k) := by
  have e : l.drop k = [] := List.drop_eq_nil_of_le hk
  refine .inr ⟨g, o, 0, by rw [List.length_drop], by rw [e]; exact Nat.le_refl _, fun j u hj => by rw [e] at hj; simp at hj⟩

set_option maxHeartbeats 800000 in
theorem take_no (B : Nat) (w : World) (b : Nat) (v : Value) (l : List Int) (lk : Bool) (n : Int) (hn : n < 0 ∨ (l.length : Int) < n) (h : Rd 188 B w b v l lk) :
    Calls Tryz.prog 109 #[.pointer (some ⟨b, 0, none⟩), .int .i64 n] w fun e w' => e = .returned (.slice none 0 0) ∧ Rdd 188 B w b v [] true w' := by
  have c0 := h.c0
  have HH := Lib.hid h
  by_cases h0 : n < 0
  · clear h hn
    go_enter Tryz.func109, Tryz.ntmps109
    go_wp2_with (go_at_call 110; refine (fail_any _ _ _ _ _ _ HH.out).mono ?_; rintro e w' ⟨rfl, R⟩; have HR := Lib.hid R; clear R)
    go_ret
    exact ⟨rfl, HR.out⟩
  · have hl : (l.length : Int) < n := by omega
    rcases h.seen with ⟨rfl, rfl⟩ | ⟨g, o, cap, rfl, hc, hu⟩
    all_goals
      clear h hn
      try clear hu
      go_enter Tryz.func109, Tryz.ntmps109
      go_wp2_with (go_at_call 110; refine (fail_any _ _ _ _ _ _ HH.out).mono ?_; rintro e w' ⟨rfl, R⟩; have HR := Lib.hid R; clear R)
      go_ret
      exact ⟨rfl, HR.out⟩

set_option maxHeartbeats 800000 in
theorem take_yes (B : Nat) (w : World) (b : Nat) (v : Value) (l : List Int) (lk : Bool) (n : Int) (k : Nat) (hk : n = k) (hkl : k ≤ l.length) (h : Rd 188 B w b v l lk) :
    Calls Tryz.prog 109 #[.pointer (some ⟨b, 0, none⟩), .int .i64 n] w fun e w' => ∃ u, e = .returned u ∧ SeenR w' u (l.take k) ∧ Rdd 188 B w b v (l.drop k) lk w' ∧ (∀ j, u.ownBlock = some j → v.ownBlock = some j) := by
  subst hk
  have c0 := h.c0
  have f0 := frozen_of_row w b 0 _ _ h.at_
  have HH := Lib.hid h
  rcases h.seen with ⟨rfl, rfl⟩ | ⟨g, o, cap, rfl, hc, hu⟩
  · have hk0 : k = 0 := by simpa using hkl
    subst hk0
    clear h
    go_enter Tryz.func109, Tryz.ntmps109
    go_wp2
    go_ret
    refine ⟨.slice none 0 0, rfl, SeenR.nil _, HH.out.store (SeenR.nil _) (fun k hk => by simp [Value.ownBlock] at hk) Okb.nil (Nat.le_refl _) (fun _ => rfl), fun _ h => h⟩
  · have HU := Lib.hid hu
    have hlk := Lib.hid fun (e : lk = true) => show l.drop k = [] by rw [h.lacks e]; exact List.drop_nil
    have hok := Lib.hid h.ok
    clear h hu
    by_cases hcap : cap = k
    · go_enter Tryz.func109, Tryz.ntmps109
      go_wp2
      go_ret
      subst hcap
      refine ⟨.slice (some ⟨g, o, none⟩) cap cap, rfl, HH.out.seen_in (seen_take hkl hc HU.out) (fun _ h => h) _, HH.out.store (seen_none hc) (fun _ h => h) (hok.out.drop _) (by simp) hlk.out, fun _ h => h⟩
    · go_enter Tryz.func109, Tryz.ntmps109
      go_wp2
      go_ret
      refine ⟨.slice (some ⟨g, o, none⟩) k cap, rfl, HH.out.seen_in (seen_take hkl hc HU.out) (fun _ h => h) _, HH.out.store (seen_drop hkl hc HU.out) (fun _ h => h) (hok.out.drop _) (by simp) hlk.out, fun _ h => h⟩
end Go.Proofs.YtbpccbhlggcmfaaGreatDoor
namespace Go.Proofs.YtbpccbhlggcmfaaGreatDoor
open Go.RowKit

/-- The number that bytes stand for, the most significant one first. -/
def bv (l : List Int) : Int := l.foldl (fun a x => a * 256 + x) 0
theorem bv_snoc (l : List Int) (x : Int) : bv (l ++ [x]) = bv l * 256 + x := by simp [bv]

set_option maxHeartbeats 800000 in
theorem rfixed_yes (B : Nat) (w : World) (b : Nat) (v : Value) (l : List Int) (lk : Bool) (n : Int) (k : Nat) (hk : n = k) (hkl : k ≤ l.length) (hk8 : k ≤ 8) (h : Rd 188 B w b v l lk) :
    Calls Tryz.prog 101 #[.pointer (some ⟨b, 0, none⟩), .int .i64 n] w fun e w' => e = .returned (.int .i64 (IntKind.i64.wrap (bv (l.take k)))) ∧ Rdd 188 B w b v (l.drop k) lk w' := by
  subst hk
  have hok := Lib.hid (h.ok.take k)
  have HH := Lib.hid h
  clear h
  go_enter Tryz.func101, Tryz.ntmps101
  go_wp2_with (go_at_call 109; refine (take_yes _ _ _ _ _ _ _ k rfl hkl HH.out).mono ?_; rintro e w' ⟨u, rfl, hs, R, _⟩; have HR := Lib.hid R; clear R; rcases hs with ⟨rfl, hs⟩ | ⟨g, o, cap, rfl, hc, hu⟩)
  · have hk0 : k = 0 := by
      have := congrArg List.length hs
      rw [List.length_take, List.length_nil] at this
      omega
    subst hk0
    clear hs
    refine wp_loop_rounds 1 ?_; rw [rounds_succ]; go_wp2
    go_ret
    exact ⟨rfl, HR.out⟩
  · have hlen : (l.take k).length = k := by rw [List.length_take]; omega
    have HL := Lib.hid hlen
    have HU := Lib.hid hu
    clear hu hlen
    go_loop [5, 12] (fun a i => ∃ j : Nat, j ≤ k ∧ i = .int .i64 j ∧ a = .int .i64 (wrap64 (bv ((l.take k).take j)))) (fun _ i => k - (intOf i).toNat)
    case atStart => exact ⟨0, Nat.zero_le _, rfl, by simp [bv, wrap64]⟩
    case round =>
      obtain ⟨j, hj, rfl, rfl⟩ := hrel
      by_cases hlt : j < k
      · obtain ⟨x, hx⟩ : ∃ x, (l.take k)[j]? = some x := ⟨_, List.getElem?_eq_getElem (by rw [HL.out]; exact hlt)⟩
        have hcell := HU.out j (.int .u8 x) (by rw [us, List.getElem?_map, hx]; rfl)
        have hxb := hok.out x (List.mem_of_getElem? hx)
        obtain ⟨hx0, hx1⟩ := hxb
        have HX := Lib.hid hx
        clear hx
        obtain ⟨a, ha⟩ : ∃ a, a = bv ((l.take k).take j) := ⟨_, rfl⟩
        rw [← ha]
        have HA := Lib.hid ha
        clear ha
        go_wp2
        refine ⟨⟨j + 1, by omega, by go_num, ?_⟩, by simp [intOf]; omega⟩
        rw [shl8_or a x hx0 hx1, List.take_add_one, HX.out, Option.toList_some, bv_snoc, ← HA.out]
      · have hjk : j = k := by omega
        subst hjk
        clear hlt
        go_wp2
        go_ret
        refine ⟨?_, HR.out⟩
        show Ending.returned (.int .i64 (wrap64 _)) = _
        rw [List.take_take, Nat.min_self, wrap64_eq]

set_option maxHeartbeats 800000 in
theorem rfixed_no (B : Nat) (w : World) (b : Nat) (v : Value) (l : List Int) (lk : Bool) (n : Int) (hn : n < 0 ∨ (l.length : Int) < n) (h : Rd 188 B w b v l lk) :
    Calls Tryz.prog 101 #[.pointer (some ⟨b, 0, none⟩), .int .i64 n] w fun e w' => e = .returned (.int .i64 0) ∧ Rdd 188 B w b v [] true w' := by
  have HH := Lib.hid h
  have HN := Lib.hid hn
  clear h hn
  go_enter Tryz.func101, Tryz.ntmps101
  go_wp2_with (go_at_call 109; refine (take_no _ _ _ _ _ _ _ HN.out HH.out).mono ?_; rintro e w' ⟨rfl, R⟩; have HR := Lib.hid R; clear R)
  refine wp_loop_rounds 1 ?_; rw [rounds_succ]; go_wp2
  go_ret
  exact ⟨rfl, HR.out⟩

set_option maxHeartbeats 800000 in
theorem rraw_yes (B : Nat) (w : World) (b : Nat) (v : Value) (l : List Int) (lk : Bool) (n : Int) (k : Nat) (hk : n = k) (hkl : k ≤ l.length) (h : Rd 188 B w b v l lk) :
    Calls Tryz.prog 93 #[.pointer (some ⟨b, 0, none⟩), .int .i64 n] w fun e w' => ∃ u, e = .returned u ∧ SeenR w' u (l.take k) ∧ (∀ j, u.ownBlock = some j → w.heap.size ≤ j ∧ j < w'.heap.size) ∧ Rdd 188 B w b v (l.drop k) lk w' := by
  subst hk
  have hsm : (l.take k).length ≤ 140737488351232 := by have := h.small; rw [List.length_take]; omega
  have HS := Lib.hid hsm
  have HH := Lib.hid h
  clear h hsm
  go_enter Tryz.func93, Tryz.ntmps93
  go_wp2_with (go_at_call 109; refine (take_yes _ _ _ _ _ _ _ k rfl hkl HH.out).mono ?_; rintro e w1 ⟨u, rfl, hs, R, _⟩; have HR := Lib.hid R; have HSE := Lib.hid hs.seen; clear R hs)
  go_wp2_with (go_at_call 49; refine (clone_any _ _ (l.take k) HS.out HSE.out).mono ?_; rintro e w2 ⟨u2, rfl, R1, R2⟩; have HR1 := Lib.hid R1; have HR2 := Lib.hid R2; clear R1 R2)
  go_ret
  obtain ⟨v', hr, ho, hv⟩ := HR.out
  have ho2 : Only (fun k => k = b) w1 w2 := Only.of_below HR2.out
  refine ⟨u2, rfl, SeenR.own HR1.out, fun j hj => ?_, v', hr.kept (S := fun _ => False) (Only.of_below HR2.out) (fun h => h) (fun _ _ h => h), ho.trans ho2 (fun _ h => h) (fun _ _ h => h), hv⟩
  have := HR1.out.lt j hj
  have := ho.size
  omega

set_option maxHeartbeats 800000 in
theorem rraw_no (B : Nat) (w : World) (b : Nat) (v : Value) (l : List Int) (lk : Bool) (n : Int) (hn : n < 0 ∨ (l.length : Int) < n) (h : Rd 188 B w b v l lk) :
    Calls Tryz.prog 93 #[.pointer (some ⟨b, 0, none⟩), .int .i64 n] w fun e w' => e = .returned (.slice none 0 0) ∧ Rdd 188 B w b v [] true w' := by
  have HH := Lib.hid h
  have HN := Lib.hid hn
  clear h hn
  go_enter Tryz.func93, Tryz.ntmps93
  go_wp2_with (go_at_call 109; refine (take_no _ _ _ _ _ _ _ HN.out HH.out).mono ?_; rintro e w1 ⟨rfl, R⟩; have HR := Lib.hid R; clear R)
  go_wp2_with (go_at_call 49; refine (clone_nil _).mono ?_; rintro e w2 ⟨rfl, rfl⟩)
  go_ret
  exact ⟨rfl, HR.out⟩

theorem ru8_yes (B : Nat) (w : World) (b : Nat) (v : Value) (l : List Int) (lk : Bool) (hkl : 1 ≤ l.length) (h : Rd 188 B w b v l lk) :
    Calls Tryz.prog 82 #[.pointer (some ⟨b, 0, none⟩)] w fun e w' => e = .returned (.int .i64 (IntKind.i64.wrap (bv (l.take 1)))) ∧ Rdd 188 B w b v (l.drop 1) lk w' := by
  have HH := Lib.hid h
  clear h
  have HK := Lib.hid hkl
  clear hkl
  go_enter Tryz.func82, Tryz.ntmps82
  go_wp2_with (go_at_call 101; refine (rfixed_yes _ _ _ _ _ _ _ 1 rfl HK.out (by decide) HH.out).mono ?_; rintro e w' ⟨rfl, R⟩; have HR := Lib.hid R; clear R)
  go_ret
  exact ⟨rfl, HR.out⟩
theorem ru8_no (B : Nat) (w : World) (b : Nat) (v : Value) (l : List Int) (lk : Bool) (hkl : l.length < 1) (h : Rd 188 B w b v l lk) :
    Calls Tryz.prog 82 #[.pointer (some ⟨b, 0, none⟩)] w fun e w' => e = .returned (.int .i64 0) ∧ Rdd 188 B w b v [] true w' := by
  have HH := Lib.hid h
  clear h
  have HK := Lib.hid hkl
  clear hkl
  go_enter Tryz.func82, Tryz.ntmps82
  go_wp2_with (go_at_call 101; refine (rfixed_no _ _ _ _ _ _ _ (.inr (by have := HK.out; omega)) HH.out).mono ?_; rintro e w' ⟨rfl, R⟩; have HR := Lib.hid R; clear R)
  go_ret
  exact ⟨rfl, HR.out⟩

theorem ru32_yes (B : Nat) (w : World) (b : Nat) (v : Value) (l : List Int) (lk : Bool) (hkl : 4 ≤ l.length) (h : Rd 188 B w b v l lk) :
    Calls Tryz.prog 83 #[.pointer (some ⟨b, 0, none⟩)] w fun e w' => e = .returned (.int .i64 (IntKind.i64.wrap (bv (l.take 4)))) ∧ Rdd 188 B w b v (l.drop 4) lk w' := by
  have HH := Lib.hid h
  clear h
  have HK := Lib.hid hkl
  clear hkl
  go_enter Tryz.func83, Tryz.ntmps83
  go_wp2_with (go_at_call 101; refine (rfixed_yes _ _ _ _ _ _ _ 4 rfl HK.out (by decide) HH.out).mono ?_; rintro e w' ⟨rfl, R⟩; have HR := Lib.hid R; clear R)
  go_ret
  exact ⟨rfl, HR.out⟩
theorem ru32_no (B : Nat) (w : World) (b : Nat) (v : Value) (l : List Int) (lk : Bool) (hkl : l.length < 4) (h : Rd 188 B w b v l lk) :
    Calls Tryz.prog 83 #[.pointer (some ⟨b, 0, none⟩)] w fun e w' => e = .returned (.int .i64 0) ∧ Rdd 188 B w b v [] true w' := by
  have HH := Lib.hid h
  clear h
  have HK := Lib.hid hkl
  clear hkl
  go_enter Tryz.func83, Tryz.ntmps83
  go_wp2_with (go_at_call 101; refine (rfixed_no _ _ _ _ _ _ _ (.inr (by have := HK.out; omega)) HH.out).mono ?_; rintro e w' ⟨rfl, R⟩; have HR := Lib.hid R; clear R)
  go_ret
  exact ⟨rfl, HR.out⟩

end Go.Proofs.YtbpccbhlggcmfaaGreatDoor
namespace Go.Proofs.YtbpccbhlggcmfaaGreatDoor
open Go.RowKit

/-- What Var reads: f: how many bytes it may still read; i: how many it has read; a: what they gave. -/
def rv : Nat → Nat → Int → List Int → Option (Int × List Int)
  | 0, _, _, _ => none
  | _ + 1, _, _, [] => none
  | f + 1, i, a, x :: l => if (0 < i ∧ x = 0) ∨ (i = 9 ∧ 1 < x) then none else if x < 128 then some (a + x * 2 ^ (7 * i), l) else rv f (i + 1) (a + (x - 128) * 2 ^ (7 * i)) l

def VarPost (T B : Nat) (w : World) (b : Nat) (v : Value) (lk : Bool) (r : Option (Int × List Int)) (e : Ending) (w' : World) : Prop :=
  match r with
  | some (x, l) => e = .returned (.int .i64 (wrap64 x)) ∧ Rdd T B w b v l lk w'
  | none => e = .returned (.int .i64 0) ∧ Rdd T B w b v [] true w'

theorem ru8_cons (B : Nat) (w : World) (b : Nat) (v : Value) (x : Int) (l : List Int) (lk : Bool) (h : Rd 188 B w b v (x :: l) lk) :
    Calls Tryz.prog 82 #[.pointer (some ⟨b, 0, none⟩)] w fun e w' => e = .returned (.int .i64 x) ∧ Rdd 188 B w b v l lk w' := by
  refine (ru8_yes B w b v (x :: l) lk (by simp) h).mono ?_
  rintro e w' ⟨rfl, R⟩
  refine ⟨?_, R⟩
  have := h.ok x (List.mem_cons_self ..)
  have e1 : bv (List.take 1 (x :: l)) = x := by simp [bv]
  rw [e1, wrap64_eq, IntWalk.wrap64_in _ (by omega)]
theorem ru8_nil (B : Nat) (w : World) (b : Nat) (v : Value) (lk : Bool) (h : Rd 188 B w b v [] lk) :
    Calls Tryz.prog 82 #[.pointer (some ⟨b, 0, none⟩)] w fun e w' => e = .returned (.int .i64 0) ∧ Rdd 188 B w b v [] true w' :=
  ru8_no B w b v [] lk (by simp) h

theorem VarPost.no {T B b : Nat} {w w' : World} {v : Value} {lk : Bool} {r : Option (Int × List Int)} {y : Int} (hr : r = none) (hy : y = 0) (h : Rdd T B w b v [] true w') : VarPost T B w b v lk r (.returned (.int .i64 y)) w' := by
  subst hr; subst hy; exact ⟨rfl, h⟩
theorem VarPost.yes {T B b : Nat} {w w' : World} {v : Value} {lk : Bool} {r : Option (Int × List Int)} {x y : Int} {l : List Int} (hr : r = some (x, l)) (hy : y = wrap64 x) (h : Rdd T B w b v l lk w') : VarPost T B w b v lk r (.returned (.int .i64 y)) w' := by
  subst hr; subst hy; exact ⟨rfl, h⟩
theorem or_step (a x : Int) (i : Nat) (hi : i ≤ 9) (h0 : 0 ≤ a) (h1 : a < 2 ^ (7 * i)) : bits .or .i64 a (wrap64 (x % 128 * 2 ^ (7 * i))) = wrap64 (a + x % 128 * 2 ^ (7 * i)) := by
  rw [or_i64' _ a (7 * i) (by omega) (Int.mul_emod_left _ _) h0 h1, Int.add_comm]
theorem pow7 (i : Nat) (hi : i ≤ 8) : (2 : Int) ^ (7 * (i + 1)) ≤ 9223372036854775808 ∧ (2 : Int) ^ (7 * (i + 1)) = 128 * 2 ^ (7 * i) ∧ (0 : Int) < 2 ^ (7 * i) := by
  refine ⟨?_, ?_, Int.pow_pos (by decide)⟩
  · have : (2 : Int) ^ (7 * (i + 1)) ≤ 2 ^ 63 := by exact_mod_cast Nat.pow_le_pow_right (by decide) (by omega)
    simpa using this
  · rw [show 7 * (i + 1) = 7 * i + 7 from by omega, Int.pow_add, Int.mul_comm]; rfl
theorem step_bd (a x : Int) (i : Nat) (hi : i ≤ 8) (h0 : 0 ≤ a) (h1 : a < 2 ^ (7 * i)) (hx : 128 ≤ x) (hx1 : x < 256) :
    0 ≤ a + (x - 128) * 2 ^ (7 * i) ∧ a + (x - 128) * 2 ^ (7 * i) < 2 ^ (7 * (i + 1)) ∧ bits .or .i64 a (wrap64 (x % 128 * 2 ^ (7 * i))) = a + (x - 128) * 2 ^ (7 * i) := by
  obtain ⟨p1, p2, p3⟩ := pow7 i hi
  have e : x % 128 = x - 128 := by omega
  have m1 : 0 ≤ (x - 128) * 2 ^ (7 * i) := Int.mul_nonneg (by omega) (by omega)
  have m2 : (x - 128) * 2 ^ (7 * i) ≤ 127 * 2 ^ (7 * i) := Int.mul_le_mul_of_nonneg_right (by omega) (by omega)
  have h2 : a + (x - 128) * 2 ^ (7 * i) < 2 ^ (7 * (i + 1)) := by rw [p2]; omega
  refine ⟨by omega, h2, ?_⟩
  rw [or_step a x i (by omega) h0 h1, e, IntWalk.wrap64_in _ (by omega)]

set_option maxHeartbeats 1600000 in
theorem rvar_any (B : Nat) (w : World) (b : Nat) (v : Value) (l : List Int) (lk : Bool) (h : Rd 188 B w b v l lk) :
    Calls Tryz.prog 94 #[.pointer (some ⟨b, 0, none⟩)] w fun e w' => VarPost 188 B w b v lk (rv 10 0 0 l) e w' := by
  go_enter Tryz.func94, Tryz.ntmps94
  go_wp2
  go_loopw [3, 4] (fun t3 t4 wr => ∃ (i : Nat) (a : Int) (li : List Int), i ≤ 9 ∧ t4 = .int .i64 i ∧ t3 = .int .i64 a ∧ 0 ≤ a ∧ Hid (a < 2 ^ (7 * i)) ∧ Hid (rv (10 - i) i a li = rv 10 0 0 l) ∧ Rdd 188 B w b v li lk wr) (fun _ t4 _ => 10 - (intOf t4).toNat)
  case atStart => exact ⟨0, 0, l, by omega, rfl, rfl, by omega, Lib.hid (by decide), Lib.hid rfl, Rdd.refl h⟩
  case round =>
    obtain ⟨i, a, li, hi, rfl, rfl, ha0, HA, HV, v1, hr1, ho1, hv1⟩ := hrel
    have HR1 := Lib.hid hr1
    have HO1 := Lib.hid ho1
    have HV1 := Lib.hid hv1
    clear hr1 ho1 hv1 h
    have hs0 : (0 : Int) ≤ 7 * (i : Int) := by omega
    have hs1 : 7 * (i : Int) ≤ 64 := by omega
    obtain ⟨f, hf⟩ : ∃ f, 10 - i = f + 1 := ⟨9 - i, by omega⟩
    rw [hf] at HV
    have HF := Lib.hid hf
    clear hf
    cases li with
    | nil =>
      have HV2 : Hid (rv 10 0 0 l = none) := Lib.hid (by rw [← HV.out, rv])
      cases i with
      | zero =>
        have HA0 : Hid (a = 0) := Lib.hid (by have := HA.out; simp at this; omega)
        go_wp2_with (go_at_call 82; refine (ru8_nil _ _ _ _ _ HR1.out).mono ?_; rintro e w' ⟨rfl, R⟩; have HR := Lib.hid R; clear R)
        go_ret
        exact VarPost.no HV2.out (by rw [HA0.out]; decide) (Rdd.trans HO1.out HV1.out HR.out)
      | succ i =>
        go_wp2_with (first | (go_at_call 82; refine (ru8_nil _ _ _ _ _ HR1.out).mono ?_; rintro e w' ⟨rfl, R⟩; obtain ⟨v2, hr2, ho2, hv2⟩ := R; have HR2 := Lib.hid hr2; have HR := Lib.hid ho2; have HV3 := Lib.hid hv2; clear hr2 ho2 hv2) | (go_at_call 110; refine (fail_any _ _ _ _ _ _ HR2.out).mono ?_; rintro e w'' ⟨rfl, R⟩; have HR4 := Lib.hid R; clear R))
        all_goals
          go_ret
          exact VarPost.no HV2.out rfl (Rdd.trans HO1.out HV1.out (Rdd.trans HR.out HV3.out HR4.out))
    | cons x li =>
      obtain ⟨hx0, hx1⟩ := HR1.out.ok x (List.mem_cons_self ..)
      by_cases hbad : (0 < i ∧ x = 0) ∨ (i = 9 ∧ 1 < x)
      · have HV2 : Hid (rv 10 0 0 l = none) := Lib.hid (by rw [← HV.out, rv, if_pos hbad])
        rcases hbad with ⟨h0i, rfl⟩ | ⟨rfl, h1x⟩
        all_goals
          go_wp2_with (first | (go_at_call 82; refine (ru8_cons _ _ _ _ _ _ _ HR1.out).mono ?_; rintro e w' ⟨rfl, R⟩; obtain ⟨v2, hr2, ho2, hv2⟩ := R; have HR2 := Lib.hid hr2; have HR := Lib.hid ho2; have HV3 := Lib.hid hv2; clear hr2 ho2 hv2) | (go_at_call 110; refine (fail_any _ _ _ _ _ _ HR2.out).mono ?_; rintro e w'' ⟨rfl, R⟩; have HR4 := Lib.hid R; clear R))
        all_goals
          go_ret
          exact VarPost.no HV2.out rfl (Rdd.trans HO1.out HV1.out (Rdd.trans HR.out HV3.out HR4.out))
      · by_cases hlt : x < 128
        · have HV2 : Hid (rv 10 0 0 l = some (a + x * 2 ^ (7 * i), li)) := Lib.hid (by rw [← HV.out, rv, if_neg hbad, if_pos hlt])
          have HE : Hid (bits .or .i64 a (wrap64 (x % 128 * 2 ^ (7 * i))) = wrap64 (a + x * 2 ^ (7 * i))) := Lib.hid (by rw [or_step a x i hi ha0 HA.out, show x % 128 = x from by omega])
          rcases (show i = 0 ∨ i = 9 ∨ (0 < i ∧ i < 9) from by omega) with rfl | rfl | ⟨hi0, hi9⟩
          · clear hbad
            go_wp2_with (go_at_call 82; refine (ru8_cons _ _ _ _ _ _ _ HR1.out).mono ?_; rintro e w' ⟨rfl, R⟩; have HR := Lib.hid R; clear R)
            go_ret
            exact VarPost.yes HV2.out (by have e := HE.out; simp only [Nat.mul_zero, Int.pow_zero, Int.mul_one] at e ⊢; rw [IntWalk.wrap64_in (x % 128) (by omega)] at e; exact e) (Rdd.trans HO1.out HV1.out HR.out)
          · obtain rfl : x = 1 := by omega
            clear hbad
            go_wp2_with (go_at_call 82; refine (ru8_cons _ _ _ _ _ _ _ HR1.out).mono ?_; rintro e w' ⟨rfl, R⟩; have HR := Lib.hid R; clear R)
            all_goals
              go_ret
              exact VarPost.yes HV2.out (by have := HE.out; simpa using this) (Rdd.trans HO1.out HV1.out HR.out)
          · have hx2 : 1 ≤ x := by omega
            have hi9' : ¬ (i : Int) = 9 := by omega
            clear hbad
            go_wp2_with (go_at_call 82; refine (ru8_cons _ _ _ _ _ _ _ HR1.out).mono ?_; rintro e w' ⟨rfl, R⟩; have HR := Lib.hid R; clear R)
            all_goals
              go_ret
              exact VarPost.yes HV2.out (by have := HE.out; simpa using this) (Rdd.trans HO1.out HV1.out HR.out)
        · have hi8 : i ≤ 8 := by omega
          obtain ⟨s1, s2, s3⟩ := step_bd a x i hi8 ha0 HA.out (by omega) hx1
          have HS2 := Lib.hid s2
          have HE := Lib.hid s3
          have HS1 := Lib.hid s1
          have HV2 : Hid (rv f (i + 1) (a + (x - 128) * 2 ^ (7 * i)) li = rv 10 0 0 l) := Lib.hid (by rw [← HV.out, rv, if_neg hbad, if_neg hlt])
          have hi9' : ¬ (i : Int) = 9 := by omega
          clear hbad s1 s2 s3
          by_cases hi0 : i = 0
          · subst hi0
            go_wp2_with (go_at_call 82; refine (ru8_cons _ _ _ _ _ _ _ HR1.out).mono ?_; rintro e w' ⟨rfl, R⟩; have HR := Lib.hid R; clear R)
            refine ⟨⟨1, a + (x - 128), li, by omega, rfl, ?_, by have := HS1.out; simpa using this, Lib.hid (by have := HS2.out; simpa using this), ?_, Rdd.trans HO1.out HV1.out HR.out⟩, by simp [intOf]⟩
            · have e := HE.out
              simp only [Nat.mul_zero, Int.pow_zero, Int.mul_one] at e
              rw [IntWalk.wrap64_in (x % 128) (by omega)] at e
              rw [e]
            · refine Lib.hid ?_
              have := HV2.out
              rw [show 10 - 1 = f from by have := HF.out; omega]
              simpa using this
          · have hi1 : 0 < i := by omega
            go_wp2_with (go_at_call 82; refine (ru8_cons _ _ _ _ _ _ _ HR1.out).mono ?_; rintro e w' ⟨rfl, R⟩; have HR := Lib.hid R; clear R)
            refine ⟨⟨i + 1, _, li, by omega, by go_num, by rw [HE.out], HS1.out, HS2, ?_, Rdd.trans HO1.out HV1.out HR.out⟩, by simp [intOf]; omega⟩
            refine Lib.hid ?_
            rw [show 10 - (i + 1) = f from by have := HF.out; omega]
            exact HV2.out
end Go.Proofs.YtbpccbhlggcmfaaGreatDoor
