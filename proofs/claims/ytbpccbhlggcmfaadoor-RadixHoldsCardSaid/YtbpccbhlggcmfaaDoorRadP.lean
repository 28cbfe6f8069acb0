/- Get, Count, Prefix of a tree of digits. Condition: a text is no longer than 64 letters, or it is none of digits. -/
import Derived.Test.YtbpccbhlggcmfaaDoorRadO
namespace Go.Proofs.YtbpccbhlggcmfaaDoor
open Go.RowKit
attribute [local go_sem ↓] hld_open heq_open hne_open

/-- A tree of the caller's: its block, and what it holds. -/
structure TT (w : World) (tb : Nat) (T : Nd) (ρ : Nat → Nat) : Prop where
  top : w.heap[tb]? = some (.cells #[ptr T, .int .i64 T.ents.length] 43 (0, 0))
  ta : TA w ρ T
  wf : T.Wf []
  sep : T.Sep
  ne : ¬ T.Bl tb
section
variable {w w' : World} {tb : Nat} {T : Nd} {ρ : Nat → Nat}
theorem TT.lt (h : TT w tb T ρ) : tb < w.heap.size := (Array.getElem?_eq_some_iff.1 h.top).1
theorem TT.kb (h : TT w tb T ρ) (hb : Below w.heap.size w w') : TT w' tb T ρ := ⟨(hb.block tb h.lt).trans h.top, h.ta.kb hb, h.wf, h.sep, h.ne⟩
theorem TT.kept {S : Nat → Prop} (h : TT w tb T ρ) (ho : Only S w w') (hS : ∀ k, (k = tb ∨ T.Bl k) → ¬ S k) : TT w' tb T ρ := ⟨(ho.block tb h.lt (hS tb (.inl rfl))).trans h.top, h.ta.kept ho (fun k hk => hS k (.inr hk)), h.wf, h.sep, h.ne⟩
end
/-- Get's number. -/
def gnum (o : Option Int) : Int := o.getD 0
theorem fnd_lk : ∀ (n : Nat) {t : Nd} {p h : List UInt8}, t.Wf p → h.length = 32 → p <+: tx h → p.length + n = 64 → ((t.fnd ((tx h).drop p.length)).fin (tx h) = .none ∧ t.lk p.length h = none) ∨ ∃ b m, (t.fnd ((tx h).drop p.length)).fin (tx h) = .leaf b h m ∧ t.lk p.length h = some m
  | n, .none, p, h, _, _, _, _ => .inl ⟨by rw [fnd_none]; rfl, rfl⟩
  | n, .leaf b x m, p, h, hw, hh, hp, hn => by
    rw [fnd_leaf]
    show ((if tx h <+: tx x then Nd.leaf b x m else .none) = .none ∧ (if x = h then some m else none) = none) ∨ ∃ b' m', (if tx h <+: tx x then Nd.leaf b x m else .none) = .leaf b' h m' ∧ (if x = h then some m else none) = some m'
    by_cases e : x = h
    · subst e
      rw [if_pos (List.prefix_refl _), if_pos rfl]
      exact .inr ⟨b, m, rfl, rfl⟩
    · have : ¬ tx h <+: tx x := fun h1 => e (tx_inj (h1.eq_of_length (by rw [tx_length, tx_length, hh, hw.1]))).symm
      rw [if_neg this, if_neg e]
      exact .inl ⟨rfl, rfl⟩
  | 0, .fork b g ws, p, h, hw, _, _, hn => by have := hw.1; omega
  | n + 1, .fork b g ws, p, h, hw, hh, hp, hn => by
    have hlt := hw.1
    have hl : p.length < (tx h).length := by rw [tx_length, hh]; omega
    have h1 := dig_at (k := p.length) hh hlt
    rw [List.getElem?_eq_getElem hl] at h1
    have h2 := Option.some.inj h1
    rw [List.drop_eq_getElem_cons hl, fnd_fork, h2, dg_und _ (dig h p.length).2]
    have e : (⟨(((dig h p.length).val : Nat) : Int).toNat % 16, Nat.mod_lt _ (by decide)⟩ : Fin 16) = dig h p.length := by
      apply Fin.ext
      show (((dig h p.length).val : Nat) : Int).toNat % 16 = (dig h p.length).val
      have := (dig h p.length).2
      omega
    have h3 := fnd_lk n (hw.2.1 (dig h p.length)) hh (dig_pre hh hp hlt) (by simp; omega)
    rw [List.length_append, List.length_singleton] at h3
    have e2 := (congrArg (fun i => ((ws i).fnd ((tx h).drop (p.length + 1))).fin (tx h)) e)
    rw [e2]
    exact h3
theorem fnd_sub {W : World} {ρ : Nat → Nat} : ∀ (s : List UInt8) {t : Nd}, TA W ρ t → TA W ρ (t.fnd s)
  | [], t, h => by rw [fnd_nil]; exact h
  | _ :: _, .none, _ => trivial
  | _ :: _, .leaf _ _ _, h => h
  | _ :: s, .fork _ _ _, h => fnd_sub s (h.2.2 _)
theorem fin_ta {W : World} {ρ : Nat → Nat} (s : List UInt8) {t : Nd} (h : TA W ρ t) : TA W ρ (t.fin s) := by
  cases t with
  | none => trivial
  | leaf b x m =>
    show TA W ρ (if s <+: tx x then Nd.leaf b x m else .none)
    split
    · exact h
    · trivial
  | fork b g ws => exact h
theorem fnd_ta {W : World} {ρ : Nat → Nat} {s r : List UInt8} {t u : Nd} (h : TA W ρ t) (e : (t.fnd s).fin r = u) : TA W ρ u := e ▸ fin_ta r (fnd_sub s h)
set_option maxRecDepth 20000 in
set_option maxHeartbeats 1000000 in
theorem get_to (w : World) (tb : Nat) (T : Nd) (ρ : Nat → Nat) (h : List UInt8) (hh : h.length = 32) (ht : TT w tb T ρ) :
    Calls Tryd.prog 14 #[.pointer (some ⟨tb, 0, none⟩), .agg (hv h)] w fun e w' => e = .returned (.tuple #[.int .i64 (gnum (T.lk 0 h)), .bool (T.lk 0 h).isSome]) ∧ Below w.heap.size w w' := by
  have hd := tx_digs h
  have h64 : (tx h).length = 64 := by rw [tx_length, hh]
  have BEL := Lib.hid ((Below.refl w.heap.size w).alloc (Nat.le_refl _) (.cells (hv h) 33))
  have HT1 := Lib.hid (ht.kb BEL.out)
  have HH := Lib.hid (heap_alloc_last w (.cells (hv h) 33))
  have key := fnd_lk 64 ht.wf hh (List.nil_prefix) rfl
  rw [show ([] : List UInt8).length = 0 from rfl, List.drop_zero] at key
  have HX := Lib.hid (fun W => text_to W h hh)
  have hl := hld_row hh HH.out
  clear hh ht
  have HF := Lib.hid (fun W (hW : TT W tb T ρ) => find_to W tb T ρ _ ⟨(tx h).toArray⟩ (by show (tx h).length ≤ 64; omega) hd hW.ta hW.top)
  rw [show (⟨(tx h).toArray⟩ : ByteArray).data.toList = tx h from rfl] at HF
  clear hd h64
  rcases key with ⟨k1, k2⟩ | ⟨b, m, k1, k2⟩
  · rw [k1] at HF
    rw [k2]
    simp only [ptr_pad, pad_none] at HF
    clear k1 k2
    go_enter Tryd.func14, Tryd.ntmps14
    go_wp2_with (first
      | (go_at_call 26; refine (HX.out _).mono ?_; rintro e w1 ⟨rfl, b1⟩; have B1 := Lib.hid b1; clear b1)
      | (go_at_call 24; refine (HF.out _ (HT1.out.kb B1.out)).mono ?_; rintro e w2 ⟨rfl, b2⟩; have B2 := Lib.hid b2; clear b2))
    go_ret2
    exact ⟨rfl, BEL.out.trans ((B1.out.trans (B2.out.mono B1.out.size)).mono BEL.out.size)⟩
  · rw [k1] at HF
    rw [k2]
    have HTA := Lib.hid (fnd_ta HT1.out.ta k1)
    simp only [ptr_pad, pad_leaf] at HF
    clear k1 k2
    go_enter Tryd.func14, Tryd.ntmps14
    go_wp2_with (first
      | (go_at_call 26; refine (HX.out _).mono ?_; rintro e w1 ⟨rfl, b1⟩; have B1 := Lib.hid b1; clear b1)
      | (go_at_call 24; refine (HF.out _ (HT1.out.kb B1.out)).mono ?_; rintro e w2 ⟨rfl, b2⟩; have B2 := Lib.hid b2; have c33 := nd_33 HTA.out.2 (((HTA.out.kb B1.out).kb B2.out).1); clear b2))
    go_ret2
    exact ⟨rfl, BEL.out.trans ((B1.out.trans (B2.out.mono B1.out.size)).mono BEL.out.size)⟩
theorem count_to9 (w : World) (tb : Nat) (T : Nd) (ρ : Nat → Nat) (ht : TT w tb T ρ) :
    Calls Tryd.prog 13 #[.pointer (some ⟨tb, 0, none⟩)] w fun e w' => e = .returned (.int .i64 T.ents.length) ∧ w = w' := by
  have c1 : w.cell? ⟨tb, 1, none⟩ = some (.int .i64 T.ents.length) := by rw [cell_of_row w tb 1 _ _ _ ht.top]; rfl
  clear ht
  generalize (T.ents.length : Int) = n at *
  go_enter Tryd.func13, Tryd.ntmps13
  go_wp2
  go_ret
  exact ⟨rfl, rfl⟩
end Go.Proofs.YtbpccbhlggcmfaaDoor
