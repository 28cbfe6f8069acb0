/- New, Put of a tree of digits. Condition: the number is at most a million. -/
import Derived.Test.YtbpccbhlggcmfaaDoorRadJ
namespace Go.Proofs.YtbpccbhlggcmfaaDoor
open Go.RowKit
attribute [local go_sem ↓] hld_open heq_open hne_open

/-- Behind Put. -/
def PutPost (w : World) (tb : Nat) (T : Nd) (ρ : Nat → Nat) (h : List UInt8) (m : Int) (W : World) : Prop :=
  ∃ (T' : Nd) (σ : Nat → Nat), TT W tb T' σ ∧ PutS [] h m ρ σ T T' ∧ (∀ k, T'.Bl k → T.Bl k ∨ w.heap.size ≤ k) ∧ Only (fun k => k = tb ∨ T.Bl k) w W
theorem puts_same {T : Nd} {ρ : Nat → Nat} {h : List UInt8} {m : Int} (hw : T.Wf []) (hl : T.lk 0 h = some m) : PutS [] h m ρ ρ T T where
  wf := hw
  lk x _ _ := by
    show T.lk 0 x = if x = h then some m else T.lk 0 x
    by_cases e : x = h
    · rw [if_pos e, e, hl]
    · rw [if_neg e]
  cnt := by show _ = _ + if T.lk 0 h = none then 1 else 0; rw [hl]; rfl
  nun := Nat.le_add_right _ _
  sv _ hs := hs
  num hn := hn
theorem PutS.from {p h : List UInt8} {m : Int} {ρ ρ' σ : Nat → Nat} {t t' : Nd} (H : PutS p h m ρ' σ t t') (ha : ∀ k, t.Bl k → ρ' k = ρ k) : PutS p h m ρ σ t t' :=
  { H with nun := by rw [← nun_agree ha]; exact H.nun, sv := fun R hs => H.sv R (sv_agree ha hs) }
theorem TT.agree {w : World} {tb : Nat} {T : Nd} {ρ ρ' : Nat → Nat} (h : TT w tb T ρ) (ha : ∀ k, T.Bl k → ρ' k = ρ k) : TT w tb T ρ' := ⟨h.top, h.ta.agree (fun _ _ => rfl) ha, h.wf, h.sep, h.ne⟩
set_option maxHeartbeats 1000000 in
theorem new_to9 (w : World) : Calls Tryd.prog 4 #[] w fun e w' => e = .returned (.pointer (some ⟨w.heap.size, 0, none⟩)) ∧ Below w.heap.size w w' ∧ TT w' w.heap.size .none (fun _ => 0) := by
  have b1 := (Below.refl w.heap.size w).alloc (Nat.le_refl _) (.cells #[.pointer none, .int .i64 0] 43)
  have h1 := heap_alloc_last w (.cells #[.pointer none, .int .i64 0] 43)
  have B1 := Lib.hid b1
  have H1 : Hid (TT (w.alloc (.cells #[.pointer none, .int .i64 0] 43)) w.heap.size .none (fun _ => 0)) := Lib.hid ⟨h1, trivial, trivial, trivial, fun h => h⟩
  clear b1 h1
  go_enter Tryd.func4, Tryd.ntmps4
  go_wp2_with fail
  go_ret
  exact ⟨rfl, B1.out, H1.out⟩
theorem put_neg (w : World) (tb : Nat) (h : List UInt8) (m : Int) (hm : m < 0) : Calls Tryd.prog 7 #[.pointer (some ⟨tb, 0, none⟩), .agg (hv h), .int .i64 m] w fun e w' => e = .returned (.bool false) ∧ Below w.heap.size w w' := by
  have B1 := Lib.hid ((Below.refl w.heap.size w).alloc (Nat.le_refl _) (.cells (hv h) 33))
  have hd : decide (m < 0) = true := decide_eq_true hm
  go_enter Tryd.func7, Tryd.ntmps7
  go_wp2_with fail
  go_ret
  exact ⟨rfl, B1.out⟩
set_option maxRecDepth 20000 in
set_option maxHeartbeats 2000000 in
theorem put_to (w : World) (tb : Nat) (T : Nd) (ρ : Nat → Nat) (h : List UInt8) (m : Int) (hh : h.length = 32) (hm : 0 ≤ m ∧ m ≤ 1000000) (ht : TT w tb T ρ) (hbig : T.ents.length ≤ 1000000) :
    Calls Tryd.prog 7 #[.pointer (some ⟨tb, 0, none⟩), .agg (hv h), .int .i64 m] w fun e w' => e = .returned (.bool true) ∧ PutPost w tb T ρ h m w' := by
  have b1 := (Below.refl w.heap.size w).alloc (Nat.le_refl _) (.cells (hv h) 33)
  have hh1 := heap_alloc_last w (.cells (hv h) 33)
  have B1 := Lib.hid b1
  have HT1 := Lib.hid (ht.kb b1)
  have HH1 := Lib.hid hh1
  have HH := Lib.hid hh
  have HM := Lib.hid hm
  have HBIG := Lib.hid hbig
  have hl := hld_row hh hh1
  have HG := Lib.hid (fun W (hW : TT W tb T ρ) => get_to W tb T ρ h hh hW)
  have hd : decide (m < 0) = false := decide_eq_false (by omega)
  have HTB : Hid (tb < w.heap.size) := Lib.hid ht.lt
  have HTL : Hid (∀ k, T.Bl k → k < w.heap.size) := Lib.hid ht.ta.lt
  have HFIN : Hid (∀ W1 W, Below w.heap.size w W1 → PPost (W1.alloc (.cells (nv 0 h m none) 56)) tb T (upn ρ W1.heap.size 0) W1.heap.size h m W → PutPost w tb T ρ h m W) := Lib.hid fun W1 W hb hp => by
    obtain ⟨T', σ, h1, h2, h3, h4⟩ := hp
    refine ⟨T', σ, h1, h2.from (fun k hk => upn_other _ _ (fun e => ?_)), fun k hk => ?_, ?_⟩
    · have := HTL.out k hk; have := hb.size; omega
    · rcases h3 k hk with e | e | e
      · exact .inl e
      · exact .inr (by rw [e]; exact hb.size)
      · exact .inr (by simp at e; have := hb.size; omega)
    · exact (Only.of_below (S := fun k => k = tb ∨ T.Bl k) (hb.alloc hb.size _)).trans h4 (fun _ e => e) (fun _ _ e => e)
  have HPL : Hid (∀ W1, TT W1 tb T ρ → Below w.heap.size w W1 → Calls Tryd.prog 15 #[.pointer (some ⟨tb, 0, none⟩), .pointer (some ⟨W1.heap.size, 0, none⟩)] (W1.alloc (.cells (nv 0 h m none) 56)) fun e w' => e = .returned (.tuple #[]) ∧ PutPost w tb T ρ h m w') := Lib.hid fun W1 hW hb => by
    have hx := heap_alloc_last W1 (.cells (nv 0 h m none) 56)
    have b2 := (Below.refl W1.heap.size W1).alloc (Nat.le_refl _) (.cells (nv 0 h m none) 56)
    have hnx : ¬ T.Bl W1.heap.size := fun e => absurd (hW.ta.lt _ e) (Nat.lt_irrefl _)
    refine (place_to _ tb T (upn ρ W1.heap.size 0) W1.heap.size h m HH.out HM.out ((hW.kb b2).agree (fun k hk => upn_other _ _ (fun e => hnx (e ▸ hk)))) hx hnx (upn_same _ _ _) HBIG.out).mono ?_
    rintro e w' ⟨rfl, hp⟩
    exact ⟨rfl, HFIN.out W1 w' hb hp⟩
  have hsame : ∀ n, T.lk 0 h = some n → n = m → ∀ W, Below w.heap.size w W → PutPost w tb T ρ h m W := fun n e1 e2 W hb => ⟨T, ρ, (HT1.out.kb (Below.refl _ _)).1 |> fun _ => ht.kb hb, puts_same ht.wf (by rw [e1, e2]), fun k hk => .inl hk, Only.of_below hb⟩
  have HSAME := Lib.hid hsame
  clear b1 hh1 hh hm ht hbig hsame HFIN
  generalize hlk : T.lk 0 h = o at *
  cases o with
  | none =>
    clear HSAME
    simp only [gnum, Option.getD_none, Option.isSome_none] at HG
    go_enter Tryd.func7, Tryd.ntmps7
    go_wp2_with (first
      | (go_at_call 14; refine (HG.out _ HT1.out).mono ?_; rintro e w1 ⟨rfl, b2⟩; have B2 := Lib.hid (B1.out.trans (b2.mono B1.out.size)); have HT2 := Lib.hid (HT1.out.kb b2); have l5 := hld_row HH.out ((b2.block w.heap.size (Array.getElem?_eq_some_iff.1 HH1.out).1).trans HH1.out); clear b2)
      | (refine build_to (vals := #[(1, .agg (hv h)), (2, .int .i64 m)]) (nb1 h HH.out m) ?hv ?_; (case hv => simp [Act.eval]))
      | (go_at_call 15; refine (HPL.out _ HT2.out B2.out).mono ?_; rintro e w2 ⟨rfl, r2⟩; have R2 := Lib.hid r2; clear r2))
    go_ret
    exact ⟨rfl, R2.out⟩
  | some n =>
    simp only [gnum, Option.getD_some, Option.isSome_some] at HG
    by_cases hnm : n = m
    · have HS := Lib.hid (HSAME.out n rfl hnm)
      subst hnm
      clear HSAME
      go_enter Tryd.func7, Tryd.ntmps7
      go_wp2_with (go_at_call 14; refine (HG.out _ HT1.out).mono ?_; rintro e w1 ⟨rfl, b2⟩; have B2 := Lib.hid (B1.out.trans (b2.mono B1.out.size)); have HT2 := Lib.hid (HT1.out.kb b2); have l5 := hld_row HH.out ((b2.block w.heap.size (Array.getElem?_eq_some_iff.1 HH1.out).1).trans HH1.out); clear b2)
      go_ret
      exact ⟨rfl, HS.out _ B2.out⟩
    · have hne : (n == m) = false := by simpa using hnm
      clear HSAME
      go_enter Tryd.func7, Tryd.ntmps7
      go_wp2_with (first
        | (go_at_call 14; refine (HG.out _ HT1.out).mono ?_; rintro e w1 ⟨rfl, b2⟩; have B2 := Lib.hid (B1.out.trans (b2.mono B1.out.size)); have HT2 := Lib.hid (HT1.out.kb b2); have l5 := hld_row HH.out ((b2.block w.heap.size (Array.getElem?_eq_some_iff.1 HH1.out).1).trans HH1.out); clear b2)
        | (refine build_to (vals := #[(1, .agg (hv h)), (2, .int .i64 m)]) (nb1 h HH.out m) ?hv ?_; (case hv => simp [Act.eval]))
        | (go_at_call 15; refine (HPL.out _ HT2.out B2.out).mono ?_; rintro e w2 ⟨rfl, r2⟩; have R2 := Lib.hid r2; clear r2))
      go_ret
      exact ⟨rfl, R2.out⟩
end Go.Proofs.YtbpccbhlggcmfaaDoor
