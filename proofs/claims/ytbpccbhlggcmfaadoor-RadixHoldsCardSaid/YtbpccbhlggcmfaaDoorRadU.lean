/- What a put does to a tree of digits, its records among it: plain mathematics. No condition. -/
import Derived.Test.YtbpccbhlggcmfaaDoorRadT
namespace Go.Proofs.YtbpccbhlggcmfaaDoor
open Go.Op

/-- A number's other value at one place. -/
def upn {α : Type} (f : Nat → α) (b : Nat) (x : α) : Nat → α := fun k => if k = b then x else f k
theorem upn_same {α : Type} (f : Nat → α) (b : Nat) (x : α) : upn f b x b = x := if_pos rfl
theorem upn_other {α : Type} (f : Nat → α) {b k : Nat} (x : α) (h : k ≠ b) : upn f b x k = f k := if_neg h
def upw (ws : Fin 16 → Nd) (i : Fin 16) (c : Nd) : Fin 16 → Nd := fun j => if j = i then c else ws j
theorem upw_same (ws : Fin 16 → Nd) (i : Fin 16) (c : Nd) : upw ws i c i = c := if_pos rfl
theorem upw_other (ws : Fin 16 → Nd) {i j : Fin 16} (c : Nd) (h : j ≠ i) : upw ws i c j = ws j := if_neg h
/-- The number of a node's record. -/
def Nd.rec' (ρ : Nat → Nat) : Nd → Nat
  | .none => 0
  | .leaf b _ _ => ρ b
  | .fork b _ _ => ρ b
/-- How many nodes have no record. -/
def Nd.nun (ρ : Nat → Nat) : Nd → Nat
  | .none => 0
  | .leaf b _ _ => if ρ b = 0 then 1 else 0
  | .fork b _ ws => (if ρ b = 0 then 1 else 0) + (fins.map fun i => (ws i).nun ρ).sum
/-- The blocks of a tree. -/
def Nd.Bl : Nd → Nat → Prop
  | .none, _ => False
  | .leaf b _ _, k => k = b
  | .fork b g ws, k => k = b ∨ k = g ∨ ∃ i, (ws i).Bl k
/-- No block twice. -/
def Nd.Sep : Nd → Prop
  | .none => True
  | .leaf _ _ _ => True
  | .fork b g ws => b ≠ g ∧ (∀ i, ¬ (ws i).Bl b ∧ ¬ (ws i).Bl g ∧ (ws i).Sep) ∧ ∀ i j k, i ≠ j → (ws i).Bl k → ¬ (ws j).Bl k
/-- A record's body. -/
def lrec (h : List UInt8) (m : Int) : List Int := nmb h ++ leb 8 m
def frec (ρ : Nat → Nat) (ws : Fin 16 → Nd) : List Int := fins.flatMap fun i => leb 8 ((ws i).rec' ρ : Int)
/-- What is said to be saved is. -/
def Nd.Sv (ρ : Nat → Nat) (R : List (Int × List Int)) : Nd → Prop
  | .none => True
  | .leaf b h m => ρ b ≠ 0 → R[ρ b - 1]? = some (1, lrec h m)
  | .fork b _ ws => (∀ i, (ws i).Sv ρ R) ∧ (ρ b ≠ 0 → R[ρ b - 1]? = some (2, frec ρ ws) ∧ ∀ i, (ws i).rec' ρ < ρ b ∧ (ws i ≠ .none → (ws i).rec' ρ ≠ 0))
/-- No number is negative or too great. -/
def Nd.Num : Nd → Prop
  | .none => True
  | .leaf _ _ m => 0 ≤ m ∧ m ≤ 1000000
  | .fork _ _ ws => ∀ i, (ws i).Num

theorem rec_agree {ρ σ : Nat → Nat} : ∀ {t : Nd}, (∀ k, t.Bl k → σ k = ρ k) → t.rec' σ = t.rec' ρ
  | .none, _ => rfl
  | .leaf b _ _, h => h b rfl
  | .fork b _ _, h => h b (.inl rfl)
theorem nun_agree {ρ σ : Nat → Nat} : ∀ {t : Nd}, (∀ k, t.Bl k → σ k = ρ k) → t.nun σ = t.nun ρ
  | .none, _ => rfl
  | .leaf b _ _, h => by show (if σ b = 0 then 1 else 0) = _; rw [h b rfl]; rfl
  | .fork b _ ws, h => by
    show (if σ b = 0 then 1 else 0) + (fins.map fun i => (ws i).nun σ).sum = _
    rw [h b (.inl rfl)]
    have : (fun i => (ws i).nun σ) = fun i => (ws i).nun ρ := funext fun i => nun_agree fun k hk => h k (.inr (.inr ⟨i, hk⟩))
    rw [this]; rfl
theorem sv_agree {ρ σ : Nat → Nat} {R : List (Int × List Int)} : ∀ {t : Nd}, (∀ k, t.Bl k → σ k = ρ k) → t.Sv ρ R → t.Sv σ R
  | .none, _, _ => trivial
  | .leaf b h m, hb, hs => by show σ b ≠ 0 → R[σ b - 1]? = _; rw [hb b rfl]; exact hs
  | .fork b g ws, hb, hs => by
    have h1 : ∀ i, (ws i).rec' σ = (ws i).rec' ρ := fun i => rec_agree fun k hk => hb k (.inr (.inr ⟨i, hk⟩))
    refine ⟨fun i => sv_agree (fun k hk => hb k (.inr (.inr ⟨i, hk⟩))) (hs.1 i), ?_⟩
    have h2 : frec σ ws = frec ρ ws := by
      unfold frec
      exact congrArg (fun f => fins.flatMap f) (funext fun i => by rw [h1 i])
    rw [hb b (.inl rfl), h2]
    intro h0
    refine ⟨(hs.2 h0).1, fun i => ?_⟩
    rw [h1 i]; exact (hs.2 h0).2 i
theorem sv_grow {ρ : Nat → Nat} {R : List (Int × List Int)} (T : List (Int × List Int)) : ∀ {t : Nd}, t.Sv ρ R → t.Sv ρ (R ++ T)
  | .none, _ => trivial
  | .leaf b h m, hs => fun h0 => by rw [List.getElem?_append_left (List.getElem?_eq_some_iff.1 (hs h0)).1]; exact hs h0
  | .fork b g ws, hs => ⟨fun i => sv_grow T (hs.1 i), fun h0 => ⟨by rw [List.getElem?_append_left (List.getElem?_eq_some_iff.1 (hs.2 h0).1).1]; exact (hs.2 h0).1, (hs.2 h0).2⟩⟩
theorem upw_len (ws : Fin 16 → Nd) (i : Fin 16) (c : Nd) : ∀ L : List (Fin 16), L.Nodup → (L.flatMap fun j => (upw ws i c j).ents).length + (if i ∈ L then (ws i).ents.length else 0) = (L.flatMap fun j => (ws j).ents).length + if i ∈ L then c.ents.length else 0
  | [], _ => by simp
  | j :: L, hL => by
    obtain ⟨h3, h4⟩ := List.nodup_cons.1 hL
    have ih := upw_len ws i c L h4
    rw [List.flatMap_cons, List.flatMap_cons, List.length_append, List.length_append]
    by_cases e : j = i
    · subst e
      rw [if_neg h3, if_neg h3] at ih
      rw [if_pos List.mem_cons_self, if_pos List.mem_cons_self, upw_same]
      omega
    · have : i ∈ j :: L ↔ i ∈ L := by simp [Ne.symm e]
      rw [upw_other ws c e]
      by_cases hi : i ∈ L
      · rw [if_pos hi, if_pos hi] at ih
        rw [if_pos (this.2 hi), if_pos (this.2 hi)]
        omega
      · rw [if_neg hi, if_neg hi] at ih
        rw [if_neg (fun h => hi (this.1 h)), if_neg (fun h => hi (this.1 h))]
        omega
theorem fork_len (b g b' g' : Nat) (ws : Fin 16 → Nd) (i : Fin 16) (c : Nd) : (Nd.fork b g (upw ws i c)).ents.length + (ws i).ents.length = (Nd.fork b' g' ws).ents.length + c.ents.length := by
  have := upw_len ws i c fins fins_nodup
  rw [if_pos (fins_mem i), if_pos (fins_mem i)] at this
  exact this
theorem upw_sum {f f' : Fin 16 → Nat} (i : Fin 16) (h : ∀ j, j ≠ i → f' j = f j) : ∀ L : List (Fin 16), L.Nodup → (L.map f').sum + (if i ∈ L then f i else 0) = (L.map f).sum + if i ∈ L then f' i else 0
  | [], _ => by simp
  | j :: L, hL => by
    obtain ⟨h3, h4⟩ := List.nodup_cons.1 hL
    have ih := upw_sum i h L h4
    rw [List.map_cons, List.map_cons, List.sum_cons, List.sum_cons]
    by_cases e : j = i
    · subst e
      rw [if_neg h3, if_neg h3] at ih
      rw [if_pos List.mem_cons_self, if_pos List.mem_cons_self]
      omega
    · have : i ∈ j :: L ↔ i ∈ L := by simp [Ne.symm e]
      rw [h j e]
      by_cases hi : i ∈ L
      · rw [if_pos hi, if_pos hi] at ih
        rw [if_pos (this.2 hi), if_pos (this.2 hi)]
        omega
      · rw [if_neg hi, if_neg hi] at ih
        rw [if_neg (fun h => hi (this.1 h)), if_neg (fun h => hi (this.1 h))]
        omega
/-- A put of h with m: t before, t' behind it; ρ and σ are the records. -/
structure PutS (p h : List UInt8) (m : Int) (ρ σ : Nat → Nat) (t t' : Nd) : Prop where
  wf : t'.Wf p
  lk : ∀ x, x.length = 32 → p <+: tx x → t'.lk p.length x = if x = h then some m else t.lk p.length x
  cnt : t'.ents.length = t.ents.length + if t.lk p.length h = none then 1 else 0
  nun : t'.nun σ ≤ t.nun ρ + (65 - p.length)
  sv : ∀ R, t.Sv ρ R → t'.Sv σ R
  num : t.Num → t'.Num
section
variable {p h : List UInt8} {m : Int} {ρ σ : Nat → Nat} {b g : Nat} {i : Fin 16}
/-- At a place where there is nothing. -/
theorem puts_none (hh : h.length = 32) (hp : p <+: tx h) (h0 : σ b = 0) (hm : 0 ≤ m ∧ m ≤ 1000000) : PutS p h m ρ σ .none (.leaf b h m) where
  wf := ⟨hh, hp⟩
  lk x _ _ := by
    show (if h = x then some m else none) = if x = h then some m else none
    by_cases e : x = h
    · rw [if_pos e, if_pos e.symm]
    · rw [if_neg e, if_neg (Ne.symm e)]
  cnt := rfl
  nun := by
    have := hp.length_le
    rw [tx_length, hh] at this
    show (if σ b = 0 then 1 else 0) ≤ 0 + (65 - p.length)
    rw [if_pos h0]; omega
  sv _ _ h1 := absurd h0 h1
  num _ := hm
/-- Where the hash lies already. -/
theorem puts_leaf {b' : Nat} {m' : Int} (hh : h.length = 32) (hp : p <+: tx h) (h0 : σ b = 0) (hm : 0 ≤ m ∧ m ≤ 1000000) : PutS p h m ρ σ (.leaf b' h m') (.leaf b h m) where
  wf := ⟨hh, hp⟩
  lk x _ _ := by
    show (if h = x then some m else none) = if x = h then some m else if h = x then some m' else none
    by_cases e : x = h
    · rw [if_pos e, if_pos e.symm]
    · rw [if_neg e, if_neg (Ne.symm e), if_neg (Ne.symm e)]
  cnt := by
    show 1 = 1 + if (if h = h then some m' else none) = none then 1 else 0
    rw [if_pos rfl]; rfl
  nun := by
    have := hp.length_le
    rw [tx_length, hh] at this
    show (if σ b = 0 then 1 else 0) ≤ _ + (65 - p.length)
    rw [if_pos h0]; omega
  sv _ _ h1 := absurd h0 h1
  num _ := hm
/-- A fork on the way to h: of t itself, or made of it. -/
structure Mid (p h : List UInt8) (ρ : Nat → Nat) (t : Nd) (ws : Fin 16 → Nd) : Prop where
  len : p.length < 64
  wf : ∀ i, (ws i).Wf (p ++ [dg i])
  lk : ∀ x, x.length = 32 → p <+: tx x → (ws (dig x p.length)).lk (p.length + 1) x = t.lk p.length x
  cnt : (Nd.fork 0 0 ws).ents.length = t.ents.length
  two : 2 ≤ t.ents.length ∨ (1 ≤ t.ents.length ∧ t.lk p.length h = none)
  nun : (fins.map fun i => (ws i).nun ρ).sum ≤ t.nun ρ
  sv : ∀ R, t.Sv ρ R → ∀ i, (ws i).Sv ρ R
  num : t.Num → ∀ i, (ws i).Num
theorem mid_fork {ws : Fin 16 → Nd} (hw : (Nd.fork b g ws).Wf p) : Mid p h ρ (.fork b g ws) ws where
  len := hw.1
  wf := hw.2.1
  lk _ _ _ := rfl
  cnt := rfl
  two := .inl hw.2.2
  nun := Nat.le_add_left _ _
  sv _ hs := hs.1
  num hn := hn
def lone (t : Nd) (i : Fin 16) : Fin 16 → Nd := upw (fun _ => .none) i t
theorem lone_ents (t : Nd) (i : Fin 16) : (Nd.fork 0 0 (lone t i)).ents.length = t.ents.length := by
  have := fork_len 0 0 0 0 (fun _ => .none) i t
  have h0 : (Nd.fork 0 0 (fun _ => .none)).ents = [] := by
    show (fins.flatMap fun _ => []) = []
    simp
  rw [h0] at this
  have h1 : Nd.none.ents.length = 0 := rfl
  rw [h1] at this
  unfold lone
  simpa using this
theorem mid_leaf {h' : List UInt8} {m' : Int} (hw : (Nd.leaf b h' m').Wf p) (hh : h.length = 32) (hp : p <+: tx h) (hne : h' ≠ h) : Mid p h ρ (.leaf b h' m') (lone (.leaf b h' m') (dig h' p.length)) := by
  have hlt : p.length < 64 := by
    have h1 := hw.2.length_le
    rw [tx_length, hw.1] at h1
    by_cases h2 : p.length < 64
    · exact h2
    · have e1 := hw.2.eq_of_length (by rw [tx_length, hw.1]; omega)
      have e2 := hp.eq_of_length (by rw [tx_length, hh]; omega)
      exact absurd (tx_inj (e1.symm.trans e2)) hne
  have hd := dig_pre hw.1 hw.2 hlt
  refine { len := hlt, wf := fun i => ?_, lk := fun x hx hpx => ?_, cnt := lone_ents _ _, two := .inr ⟨Nat.le_refl _, if_neg hne⟩, nun := ?_, sv := fun R hs i => ?_, num := fun hn i => ?_ }
  · by_cases e : i = dig h' p.length
    · subst e; rw [lone, upw_same]; exact ⟨hw.1, hd⟩
    · rw [lone, upw_other _ _ e]; trivial
  · by_cases e : dig x p.length = dig h' p.length
    · rw [e, lone, upw_same]; rfl
    · rw [lone, upw_other _ _ e]
      show Option.none = if h' = x then some m' else Option.none
      rw [if_neg (fun e2 => e (by rw [e2]))]
  · have h1 := upw_sum (f := fun _ => 0) (f' := fun i => (lone (.leaf b h' m') (dig h' p.length) i).nun ρ) (dig h' p.length) (fun j hj => by show (lone _ _ j).nun ρ = 0; rw [lone, upw_other _ _ hj]; rfl) fins fins_nodup
    rw [if_pos (fins_mem _), if_pos (fins_mem _)] at h1
    have h2 : (fins.map fun _ : Fin 16 => 0).sum = 0 := by decide
    rw [h2] at h1
    have h3 : (lone (.leaf b h' m') (dig h' p.length) (dig h' p.length)).nun ρ = (Nd.leaf b h' m').nun ρ := by rw [lone, upw_same]
    rw [h3] at h1
    omega
  · by_cases e : i = dig h' p.length
    · subst e; rw [lone, upw_same]; exact hs
    · rw [lone, upw_other _ _ e]; trivial
  · by_cases e : i = dig h' p.length
    · subst e; rw [lone, upw_same]; exact hn
    · rw [lone, upw_other _ _ e]; trivial
/-- What is put below a fork is put into it. -/
theorem Mid.put {t c' : Nd} {ws : Fin 16 → Nd} (M : Mid p h ρ t ws) (hh : h.length = 32) (hp : p <+: tx h) (hi : i = dig h p.length) {ρ1 : Nat → Nat} (hρ : ∀ j k, (ws j).Bl k → ρ1 k = ρ k) (hP : PutS (p ++ [dg i]) h m ρ1 σ (ws i) c')
    (h0 : σ b = 0) (hσ : ∀ j k, j ≠ i → (ws j).Bl k → σ k = ρ k) : PutS p h m ρ σ t (.fork b g (upw ws i c')) := by
  have hl1 : (p ++ [dg i]).length = p.length + 1 := by simp
  have hcn := hP.cnt
  have hlk := M.lk h hh hp
  have hlen := fork_len b g 0 0 ws i c'
  have hcnt := M.cnt
  rw [hl1, hi, hlk, ← hi] at hcn
  have htwo := M.two
  have hC : (Nd.fork b g (upw ws i c')).ents.length = t.ents.length + if t.lk p.length h = none then 1 else 0 := by omega
  refine { wf := ⟨M.len, fun j => ?_, ?_⟩, lk := fun x hx hpx => ?_, cnt := hC, nun := ?_, sv := fun R hs => ⟨fun j => ?_, fun h1 => absurd h0 h1⟩, num := fun hn j => ?_ }
  · by_cases e : j = i
    · subst e; rw [upw_same]; exact hP.wf
    · rw [upw_other _ _ e]; exact M.wf j
  · rw [hC]
    rcases htwo with h2 | ⟨h2, h3⟩
    · omega
    · rw [if_pos h3]; omega
  · show (upw ws i c' (dig x p.length)).lk (p.length + 1) x = _
    by_cases e : dig x p.length = i
    · have h2 : p ++ [dg i] <+: tx x := e ▸ dig_pre hx hpx M.len
      have h1 := hP.lk x hx h2
      rw [hl1] at h1
      rw [e, upw_same, h1, ← M.lk x hx hpx, e]
    · rw [upw_other _ _ e, M.lk x hx hpx, if_neg (fun e2 => e (by rw [e2, hi]))]
  · show (if σ b = 0 then 1 else 0) + (fins.map fun j => (upw ws i c' j).nun σ).sum ≤ _
    rw [if_pos h0]
    have h1 := upw_sum (f := fun j => (ws j).nun ρ) (f' := fun j => (upw ws i c' j).nun σ) i (fun j hj => by show (upw ws i c' j).nun σ = _; rw [upw_other _ _ hj]; exact nun_agree fun k hk => hσ j k hj hk) fins fins_nodup
    rw [if_pos (fins_mem _), if_pos (fins_mem _)] at h1
    have h2 : (upw ws i c' i).nun σ = c'.nun σ := by rw [upw_same]
    rw [h2] at h1
    have h3 := hP.nun
    rw [hl1, nun_agree (fun k hk => hρ i k hk)] at h3
    have h4 := M.nun
    have h5 := M.len
    omega
  · by_cases e : j = i
    · subst e; rw [upw_same]; exact hP.sv R (sv_agree (fun k hk => hρ j k hk) (M.sv R hs j))
    · rw [upw_other _ _ e]; exact sv_agree (fun k hk => hσ j k e hk) (M.sv R hs j)
  · by_cases e : j = i
    · subst e; rw [upw_same]; exact hP.num (M.num hn j)
    · rw [upw_other _ _ e]; exact M.num hn j
end
end Go.Proofs.YtbpccbhlggcmfaaDoor
