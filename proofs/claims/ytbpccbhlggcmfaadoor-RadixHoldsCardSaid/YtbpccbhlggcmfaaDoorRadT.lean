/- A tree of digits, as plain mathematics: what it holds, what a put does to it, what begins with a text. No condition. -/
import Derived.Test.YtbpccbhlggcmfaaDoorRadM
namespace Go.Proofs.YtbpccbhlggcmfaaDoor
open Go.Op

/-- A node: its block (and its array's), and what it holds. -/
inductive Nd
  | none
  | leaf (b : Nat) (h : List UInt8) (m : Int)
  | fork (b g : Nat) (ws : Fin 16 → Nd)
def fins : List (Fin 16) := List.finRange 16
theorem fins_mem (i : Fin 16) : i ∈ fins := List.mem_finRange i
theorem fins_nodup : fins.Nodup := List.nodup_finRange 16
theorem fins_lt : fins.Pairwise (· < ·) := by decide
def Nd.ents : Nd → En
  | .none => []
  | .leaf _ h m => [(h, m)]
  | .fork _ _ ws => fins.flatMap fun i => (ws i).ents
/-- Digit k of a hash. -/
def dig (h : List UInt8) (k : Nat) : Fin 16 := ⟨(und ((tx h).getD k 48)).toNat % 16, Nat.mod_lt _ (by decide)⟩
def Nd.lk : Nd → Nat → List UInt8 → Option Int
  | .none, _, _ => Option.none
  | .leaf _ h m, _, x => if h = x then some m else Option.none
  | .fork _ _ ws, k, x => (ws (dig x k)).lk (k + 1) x
def Nd.Wf : Nd → List UInt8 → Prop
  | .none, _ => True
  | .leaf _ h _, p => h.length = 32 ∧ p <+: tx h
  | .fork b g ws, p => p.length < 64 ∧ (∀ i, (ws i).Wf (p ++ [dg i])) ∧ 2 ≤ (Nd.fork b g ws).ents.length
set_option maxRecDepth 20000 in
theorem tx_digit {c : UInt8} (h : 0 ≤ und c) : c = dg (und c).toNat := by
  unfold und at h ⊢
  have key : ∀ n : Fin 256, (48 ≤ n.val ∧ n.val ≤ 57 → UInt8.ofNat n.val = dg (n.val - 48)) ∧ (97 ≤ n.val ∧ n.val ≤ 102 → UInt8.ofNat n.val = dg (n.val - 87)) := by decide
  have hc := key ⟨c.toNat, c.toNat_lt⟩
  simp only [UInt8.ofNat_toNat] at hc
  split
  · rename_i h1
    rw [show ((c.toNat : Int) - 48).toNat = c.toNat - 48 from by omega]
    exact hc.1 h1
  · split
    · rename_i h1
      rw [show ((c.toNat : Int) - 87).toNat = c.toNat - 87 from by omega]
      exact hc.2 h1
    · rename_i h1 h2
      rw [if_neg h1, if_neg h2] at h
      exact absurd h (by decide)
theorem dig_at {h : List UInt8} {k : Nat} (hh : h.length = 32) (hk : k < 64) : (tx h)[k]? = some (dg (dig h k)) := by
  have hl : k < (tx h).length := by rw [tx_length, hh]; omega
  have hd : 0 ≤ und (tx h)[k] := by
    have := tx_digs h
    unfold digs at this
    rw [List.all_eq_true] at this
    simpa using this _ (List.getElem_mem hl)
  have h15 := und_hi (tx h)[k]
  rw [List.getElem?_eq_getElem hl]
  have e : dig h k = ⟨(und (tx h)[k]).toNat, by omega⟩ := by
    unfold dig
    simp only [List.getD_eq_getElem?_getD, List.getElem?_eq_getElem hl, Option.getD_some]
    congr 1
    omega
  rw [e, ← tx_digit hd]
theorem dig_pre {h p : List UInt8} (hh : h.length = 32) (hp : p <+: tx h) (hk : p.length < 64) : p ++ [dg (dig h p.length)] <+: tx h := by
  obtain ⟨r, hr⟩ := hp
  have h1 := dig_at hh hk
  rw [← hr, List.getElem?_append_right (Nat.le_refl _), Nat.sub_self] at h1
  cases r with
  | nil => simp at h1
  | cons c r =>
    simp only [List.getElem?_cons_zero, Option.some.injEq] at h1
    rw [← hr, ← h1]
    exact ⟨r, by simp⟩
theorem dg_inj {i j : Fin 16} (h : dg i = dg j) : i = j := by
  have h1 := dg_und i i.2
  have h2 := dg_und j j.2
  rw [h] at h1
  exact Fin.ext (by omega)
theorem pre_dig {h p : List UInt8} {i : Fin 16} (hh : h.length = 32) (hp : p ++ [dg i] <+: tx h) : i = dig h p.length := by
  have hl := hp.length_le
  rw [tx_length, hh, List.length_append, List.length_singleton] at hl
  have h1 := dig_at (k := p.length) hh (by omega)
  obtain ⟨r, hr⟩ := hp
  rw [← hr] at h1
  simp at h1
  exact dg_inj h1
theorem pre_weak {p x : List UInt8} {c : UInt8} (h : p ++ [c] <+: x) : p <+: x := (List.prefix_append p [c]).trans h
/-- All keys begin as the place says. -/
theorem Nd.Wf.mem : ∀ {t : Nd} {p : List UInt8}, t.Wf p → ∀ {e : List UInt8 × Int}, e ∈ t.ents → e.1.length = 32 ∧ p <+: tx e.1
  | .none, _, _, _, he => by cases he
  | .leaf _ h m, _, hw, e, he => by
    rw [List.mem_singleton.1 he]; exact hw
  | .fork b g ws, p, hw, e, he => by
    obtain ⟨i, _, hi⟩ := List.mem_flatMap.1 he
    have h1 := (hw.2.1 i).mem hi
    exact ⟨h1.1, pre_weak h1.2⟩
theorem kget_app (x : List UInt8) : ∀ a b : En, kget x (a ++ b) = (kget x a).or (kget x b)
  | [], b => by simp [kget]
  | y :: a, b => by
    show (if y.1 = x then some y.2 else kget x (a ++ b)) = (if y.1 = x then some y.2 else kget x a).or (kget x b)
    by_cases e : y.1 = x
    · rw [if_pos e, if_pos e]; rfl
    · rw [if_neg e, if_neg e, kget_app x a b]
theorem kget_none {x : List UInt8} {a : En} (h : x ∉ keys a) : kget x a = none := by
  cases hk : kget x a with
  | none => rfl
  | some v => exact absurd ((kget_some x a).1 (by rw [hk]; rfl)) h
theorem kget_flat {x : List UInt8} {f : Fin 16 → En} {i : Fin 16} (h : ∀ j, j ≠ i → x ∉ keys (f j)) : ∀ L : List (Fin 16), kget x (L.flatMap f) = if i ∈ L then kget x (f i) else none
  | [] => by simp [kget]
  | j :: L => by
    rw [List.flatMap_cons, kget_app, kget_flat h L]
    by_cases e : j = i
    · subst e
      rw [if_pos List.mem_cons_self]
      split
      · cases kget x (f j) <;> rfl
      · cases kget x (f j) <;> rfl
    · rw [kget_none (h j e)]
      have : i ∈ j :: L ↔ i ∈ L := by simp [Ne.symm e]
      rw [Option.none_or]
      by_cases hi : i ∈ L
      · rw [if_pos hi, if_pos (this.2 hi)]
      · rw [if_neg hi, if_neg (fun h => hi (this.1 h))]
theorem Nd.Wf.notmem {t : Nd} {p x : List UInt8} (h : t.Wf p) (hx : ¬ p <+: tx x) : x ∉ keys t.ents := fun hm => by
  obtain ⟨e, he, rfl⟩ := List.mem_map.1 hm
  exact hx (h.mem he).2
/-- What is looked up by its digits is what the tree holds. -/
theorem Nd.Wf.kget : ∀ {t : Nd} {p : List UInt8}, t.Wf p → ∀ {x : List UInt8}, x.length = 32 → p <+: tx x → Go.Proofs.YtbpccbhlggcmfaaDoor.kget x t.ents = t.lk p.length x
  | .none, _, _, _, _, _ => rfl
  | .leaf _ h m, _, _, x, _, _ => by
    show Go.Proofs.YtbpccbhlggcmfaaDoor.kget x [(h, m)] = if h = x then some m else Option.none
    simp [Go.Proofs.YtbpccbhlggcmfaaDoor.kget]
  | .fork b g ws, p, hw, x, hx, hp => by
    have hd := dig_pre hx hp hw.1
    show Go.Proofs.YtbpccbhlggcmfaaDoor.kget x (fins.flatMap fun i => (ws i).ents) = (ws (dig x p.length)).lk (p.length + 1) x
    rw [kget_flat (i := dig x p.length) (fun j hj => (hw.2.1 j).notmem (fun h => hj (pre_dig hx h))), if_pos (fins_mem _), (hw.2.1 _).kget hx hd, List.length_append, List.length_singleton]
theorem less_pre {p a b : List UInt8} {i j : Fin 16} (h : i < j) (ha : p ++ [dg i] <+: a) (hb : p ++ [dg j] <+: b) : bytesLess a b = true := by
  obtain ⟨r, rfl⟩ := ha
  obtain ⟨s, rfl⟩ := hb
  induction p with
  | nil =>
    have := dg_lt i i.2 j j.2
    have h2 : dg i < dg j := by
      rw [decide_eq_decide] at this
      exact this.2 h
    simp [bytesLess, h2]
  | cons x p ih =>
    simp only [List.cons_append, bytesLess]
    simp only [List.append_assoc, List.singleton_append] at ih
    simp [ih]
/-- The keys are told in ascending order. -/
theorem Nd.Wf.asc : ∀ {t : Nd} {p : List UInt8}, t.Wf p → Asc (keys t.ents)
  | .none, _, _ => .nil
  | .leaf _ _ _, _, _ => List.pairwise_singleton _ _
  | .fork b g ws, p, hw => by
    have h1 : ∀ L : List (Fin 16), L.Pairwise (· < ·) → Asc (keys (L.flatMap fun i => (ws i).ents)) := by
      intro L
      induction L with
      | nil => intro _; exact .nil
      | cons i L ih =>
        intro hL
        obtain ⟨h2, h3⟩ := List.pairwise_cons.1 hL
        rw [List.flatMap_cons, keys, List.map_append]
        refine List.pairwise_append.2 ⟨(hw.2.1 i).asc, ih h3, fun a ha b hb => ?_⟩
        obtain ⟨e, he, rfl⟩ := List.mem_map.1 ha
        obtain ⟨f, hf, rfl⟩ := List.mem_map.1 hb
        obtain ⟨j, hj, hf⟩ := List.mem_flatMap.1 hf
        have h4 := (hw.2.1 i).mem he
        have h5 := (hw.2.1 j).mem hf
        rw [← tx_less _ _ (by rw [h4.1, h5.1])]
        exact less_pre (h2 j hj) h4.2 h5.2
    exact h1 fins fins_lt
theorem Nd.Wf.nodup {t : Nd} {p : List UInt8} (h : t.Wf p) : (keys t.ents).Nodup := asc_nodup h.asc
/-- The node to which only what begins with s belongs. -/
def Nd.fnd : Nd → List UInt8 → Nd
  | t, [] => t
  | .none, _ => .none
  | .leaf b h m, _ => .leaf b h m
  | .fork _ _ ws, c :: s => (ws ⟨(und c).toNat % 16, Nat.mod_lt _ (by decide)⟩).fnd s
theorem fnd_nil (t : Nd) : t.fnd [] = t := by cases t <;> rfl
theorem fnd_none (s : List UInt8) : Nd.none.fnd s = .none := by cases s <;> rfl
theorem fnd_leaf (b : Nat) (h : List UInt8) (m : Int) (s : List UInt8) : (Nd.leaf b h m).fnd s = .leaf b h m := by cases s <;> rfl
theorem fnd_fork (b g : Nat) (ws : Fin 16 → Nd) (c : UInt8) (s : List UInt8) : (Nd.fork b g ws).fnd (c :: s) = (ws ⟨(und c).toNat % 16, Nat.mod_lt _ (by decide)⟩).fnd s := rfl
/-- What find answers. -/
def Nd.fin (s : List UInt8) : Nd → Nd
  | .none => .none
  | .leaf b h m => if s <+: tx h then .leaf b h m else .none
  | t => t
theorem pre_iff (s x : List UInt8) : s.isPrefixOf x = decide (s <+: x) := by
  rw [Bool.eq_iff_iff]; simp [List.isPrefixOf_iff_prefix]
/-- All that begins so, and nothing else. -/
theorem fnd_ents : ∀ (s : List UInt8) {t : Nd} {p : List UInt8}, t.Wf p → digs s = true → ((t.fnd s).fin (p ++ s)).ents = t.ents.filter fun e => (p ++ s).isPrefixOf (tx e.1)
  | [], t, p, hw, _ => by
    rw [fnd_nil, List.append_nil]
    have h1 : t.ents.filter (fun e => p.isPrefixOf (tx e.1)) = t.ents := List.filter_eq_self.2 fun e he => by rw [pre_iff]; simp [(hw.mem he).2]
    rw [h1]
    cases t with
    | none => rfl
    | leaf b h m => show (if p <+: tx h then Nd.leaf b h m else Nd.none).ents = _; rw [if_pos hw.2]
    | fork b g ws => rfl
  | c :: s, .none, _, _, _ => rfl
  | c :: s, .leaf b h m, p, hw, _ => by
    show (Nd.fin (p ++ c :: s) (.leaf b h m)).ents = [(h, m)].filter _
    show (if p ++ c :: s <+: tx h then Nd.leaf b h m else Nd.none).ents = _
    by_cases e : p ++ c :: s <+: tx h
    · rw [if_pos e, List.filter_cons_of_pos (by rw [pre_iff]; simp [e])]; rfl
    · rw [if_neg e, List.filter_cons_of_neg (by rw [pre_iff]; simp [e])]; rfl
  | c :: s, .fork b g ws, p, hw, hd => by
    rw [fnd_fork]
    have hd' : 0 ≤ und c ∧ digs s = true := by unfold digs at hd ⊢; simpa using hd
    have h15 := und_hi c
    generalize hi : (⟨(und c).toNat % 16, Nat.mod_lt _ (by decide)⟩ : Fin 16) = i
    have hc : c = dg i := by
      rw [← hi]
      show c = dg ((und c).toNat % 16)
      rw [Nat.mod_eq_of_lt (by omega)]; exact tx_digit hd'.1
    have h1 := fnd_ents s (hw.2.1 i) hd'.2
    have e1 : p ++ c :: s = p ++ [dg i] ++ s := by rw [hc]; simp
    rw [e1, h1]
    show _ = (fins.flatMap fun i => (ws i).ents).filter _
    rw [List.filter_flatMap]
    have h2 : ∀ L : List (Fin 16), L.Nodup → (L.flatMap fun j => (ws j).ents.filter fun e => (p ++ [dg i] ++ s).isPrefixOf (tx e.1)) = if i ∈ L then (ws i).ents.filter (fun e => (p ++ [dg i] ++ s).isPrefixOf (tx e.1)) else [] := by
      intro L
      induction L with
      | nil => intro _; simp
      | cons j L ih =>
        intro hL
        obtain ⟨h3, h4⟩ := List.nodup_cons.1 hL
        rw [List.flatMap_cons, ih h4]
        by_cases e : j = i
        · subst e
          rw [if_neg h3, if_pos List.mem_cons_self, List.append_nil]
        · have h5 : (ws j).ents.filter (fun e => (p ++ [dg i] ++ s).isPrefixOf (tx e.1)) = [] := by
            rw [List.filter_eq_nil_iff]
            intro x hx h
            rw [pre_iff] at h
            have h6 := (hw.2.1 j).mem hx
            have h7 : p ++ [dg i] <+: tx x.1 := (List.prefix_append _ s).trans (of_decide_eq_true h)
            exact e ((pre_dig h6.1 h6.2).trans (pre_dig h6.1 h7).symm)
          rw [h5, List.nil_append]
          have : i ∈ j :: L ↔ i ∈ L := by simp [Ne.symm e]
          by_cases hi : i ∈ L
          · rw [if_pos hi, if_pos (this.2 hi)]
          · rw [if_neg hi, if_neg (fun h => hi (this.1 h))]
    rw [h2 fins fins_nodup, if_pos (fins_mem i)]
end Go.Proofs.YtbpccbhlggcmfaaDoor
