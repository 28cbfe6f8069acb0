/- What take of the octet Reader does. -/
import Derived.Test.YtdnpgdhkeofphaaDoorOctR
namespace Go.Proofs.YtdnpgdhkeofphaaDoor
open Go.RowKit

section
variable {T B b : Nat} {w : World} {v x : Value} {l l' : List Int} {lk : Bool}
theorem Rd.store (h : Rd T B w b v l lk) (hs : SeenR w x l') (ho : ∀ k, x.ownBlock = some k → v.ownBlock = some k) (hok : Okb l') (hsm : l'.length ≤ l.length) (hl : lk = true → l' = []) :
    Rdd T B w b v l' lk (w.setCell ⟨b, 0, none⟩ x) := by
  have hk : ∀ k, x.ownBlock = some k → (w.setCell ⟨b, 0, none⟩ x).heap[k]? = w.heap[k]? := fun k hk => Below.heap_setCell _ _ _ _ (h.own k (ho k hk)).2.1
  refine ⟨x, ⟨h.base, two_set0 h.at_, hs.kept hk, fun k hk => ?_, hok, Nat.le_trans hsm h.small, hl⟩, (Only.refl (fun k => k = b) w).setCell (p := ⟨b, 0, none⟩) rfl _, ho⟩
  have := h.own k (ho k hk)
  exact ⟨this.1, this.2.1, by simpa [World.setCell] using this.2.2⟩
theorem Rd.seen_in (h : Rd T B w b v l lk) (hs : SeenR w x l') (ho : ∀ k, x.ownBlock = some k → v.ownBlock = some k) (y : Value) : SeenR (w.setCell ⟨b, 0, none⟩ y) x l' :=
  hs.kept fun k hk => Below.heap_setCell _ _ _ _ (h.own k (ho k hk)).2.1
end
theorem seen_take {w : World} {l : List Int} {g o cap k : Nat} (hk : k ≤ l.length) (hc : l.length ≤ cap) (hu : ∀ j u, (us l)[j]? = some u → w.cell? ⟨g, o + j, none⟩ = some u) : SeenR w (.slice (some ⟨g, o, none⟩) k cap) (l.take k) := by
  have e : (l.take k).length = k := by rw [List.length_take]; omega
  refine .inr ⟨g, o, cap, by rw [e], by omega, fun j u hj => hu j u ?_⟩
  have hj2 : j < k := by
    have := (List.getElem?_eq_some_iff.1 hj).1
    simp [us] at this; omega
  simpa [us, List.getElem?_take, hj2] using hj
theorem seen_drop {w : World} {l : List Int} {g o cap k : Nat} (hk : k ≤ l.length) (hc : l.length ≤ cap) (hu : ∀ j u, (us l)[j]? = some u → w.cell? ⟨g, o + j, none⟩ = some u) : SeenR w (.slice (some ⟨g, o + k, none⟩) (l.length - k) (cap - k)) (l.drop k) := by
  refine .inr ⟨g, o + k, cap - k, by rw [List.length_drop], by rw [List.length_drop]; omega, fun j u hj => ?_⟩
  have := hu (k + j) u (by simpa [us, List.getElem?_drop] using hj)
  rw [Nat.add_assoc]; exact this
theorem seen_none {w : World} {l : List Int} {g o k : Nat} (hk : l.length ≤ k) : SeenR w (.slice (some ⟨g, o, none⟩) (l.length - k) 0) (l.drop k) := by
  have e : l.drop k = [] := List.drop_eq_nil_of_le hk
  refine .inr ⟨g, o, 0, by rw [List.length_drop], by rw [e]; exact Nat.le_refl _, fun j u hj => by rw [e] at hj; simp at hj⟩

set_option maxHeartbeats 800000 in
theorem take_no (B : Nat) (w : World) (b : Nat) (v : Value) (l : List Int) (lk : Bool) (n : Int) (hn : n < 0 ∨ (l.length : Int) < n) (h : Rd 148 B w b v l lk) :
    Calls Tryd.prog 76 #[.pointer (some ⟨b, 0, none⟩), .int .i64 n] w fun e w' => e = .returned (.slice none 0 0) ∧ Rdd 148 B w b v [] true w' := by
  have c0 := h.c0
  have HH := Lib.hid h
  by_cases h0 : n < 0
  · clear h hn
    go_enter Tryd.func76, Tryd.ntmps76
    go_wp2_with (go_at_call 78; refine (fail_any _ _ _ _ _ _ HH.out).mono ?_; rintro e w' ⟨rfl, R⟩; have HR := Lib.hid R; clear R)
    go_ret
    exact ⟨rfl, HR.out⟩
  · have hl : (l.length : Int) < n := by omega
    rcases h.seen with ⟨rfl, rfl⟩ | ⟨g, o, cap, rfl, hc, hu⟩
    all_goals
      clear h hn
      try clear hu
      go_enter Tryd.func76, Tryd.ntmps76
      go_wp2_with (go_at_call 78; refine (fail_any _ _ _ _ _ _ HH.out).mono ?_; rintro e w' ⟨rfl, R⟩; have HR := Lib.hid R; clear R)
      go_ret
      exact ⟨rfl, HR.out⟩

set_option maxHeartbeats 800000 in
theorem take_yes (B : Nat) (w : World) (b : Nat) (v : Value) (l : List Int) (lk : Bool) (n : Int) (k : Nat) (hk : n = k) (hkl : k ≤ l.length) (h : Rd 148 B w b v l lk) :
    Calls Tryd.prog 76 #[.pointer (some ⟨b, 0, none⟩), .int .i64 n] w fun e w' => ∃ u, e = .returned u ∧ SeenR w' u (l.take k) ∧ Rdd 148 B w b v (l.drop k) lk w' ∧ (∀ j, u.ownBlock = some j → v.ownBlock = some j) := by
  subst hk
  have c0 := h.c0
  have f0 := frozen_of_row w b 0 _ _ h.at_
  have HH := Lib.hid h
  rcases h.seen with ⟨rfl, rfl⟩ | ⟨g, o, cap, rfl, hc, hu⟩
  · have hk0 : k = 0 := by simpa using hkl
    subst hk0
    clear h
    go_enter Tryd.func76, Tryd.ntmps76
    go_wp2
    go_ret
    refine ⟨.slice none 0 0, rfl, SeenR.nil _, HH.out.store (SeenR.nil _) (fun k hk => by simp [Value.ownBlock] at hk) Okb.nil (Nat.le_refl _) (fun _ => rfl), fun _ h => h⟩
  · have HU := Lib.hid hu
    have hlk := Lib.hid fun (e : lk = true) => show l.drop k = [] by rw [h.lacks e]; exact List.drop_nil
    have hok := Lib.hid h.ok
    clear h hu
    by_cases hcap : cap = k
    · go_enter Tryd.func76, Tryd.ntmps76
      go_wp2
      go_ret
      subst hcap
      refine ⟨.slice (some ⟨g, o, none⟩) cap cap, rfl, HH.out.seen_in (seen_take hkl hc HU.out) (fun _ h => h) _, HH.out.store (seen_none hc) (fun _ h => h) (hok.out.drop _) (by simp) hlk.out, fun _ h => h⟩
    · go_enter Tryd.func76, Tryd.ntmps76
      go_wp2
      go_ret
      refine ⟨.slice (some ⟨g, o, none⟩) k cap, rfl, HH.out.seen_in (seen_take hkl hc HU.out) (fun _ h => h) _, HH.out.store (seen_drop hkl hc HU.out) (fun _ h => h) (hok.out.drop _) (by simp) hlk.out, fun _ h => h⟩
end Go.Proofs.YtdnpgdhkeofphaaDoor
