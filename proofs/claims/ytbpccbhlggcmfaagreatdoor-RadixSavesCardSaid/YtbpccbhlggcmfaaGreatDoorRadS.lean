/- What was put, as plain mathematics: entries by hash; two ways to hold the same entries tell the same. No condition. · A tree of digits, as plain mathematics: what it holds, what a put does to it, what begins with a text. No condition. · What a put does to a tree of digits, its records among it: plain mathematics. No condition. · What saving a tree of digits does to its records: plain mathematics. No condition. -/
import Derived.Test.YtbpccbhlggcmfaaGreatDoorHexS
namespace Go.Proofs.YtbpccbhlggcmfaaGreatDoor
open Go.Op

/-- Entries: a hash and its number. -/
abbrev En := List (List UInt8 × Int)
def kput : En → List UInt8 → Int → En
  | [], h, n => [(h, n)]
  | y :: l, h, n => if y.1 = h then (y.1, n) :: l else y :: kput l h n
def kget (h : List UInt8) : En → Option Int
  | [] => none
  | y :: l => if y.1 = h then some y.2 else kget h l
def keys (l : En) : List (List UInt8) := l.map (·.1)
theorem keys_length (l : En) : (keys l).length = l.length := by simp [keys]
theorem kget_put_same (h : List UInt8) (n : Int) : ∀ l, kget h (kput l h n) = some n
  | [] => by simp [kput, kget]
  | y :: l => by
    unfold kput
    by_cases e : y.1 = h
    · rw [if_pos e]; unfold kget; rw [if_pos e]
    · rw [if_neg e]; unfold kget; rw [if_neg e]; exact kget_put_same h n l
theorem kget_put_other (h g : List UInt8) (n : Int) (hg : g ≠ h) : ∀ l, kget g (kput l h n) = kget g l
  | [] => by simp [kput, kget, Ne.symm hg]
  | y :: l => by
    unfold kput
    by_cases e : y.1 = h
    · rw [if_pos e]
      unfold kget
      have : ¬ y.1 = g := fun e2 => hg (e2.symm.trans e)
      rw [if_neg this, if_neg this]
    · rw [if_neg e]
      unfold kget
      by_cases e2 : y.1 = g
      · rw [if_pos e2, if_pos e2]
      · rw [if_neg e2, if_neg e2]; exact kget_put_other h g n hg l
theorem kget_some (h : List UInt8) : ∀ l, (kget h l).isSome = true ↔ h ∈ keys l
  | [] => by simp [kget, keys]
  | y :: l => by
    unfold kget
    by_cases e : y.1 = h
    · rw [if_pos e]; simp [keys, e]
    · rw [if_neg e, kget_some h l]; simp [keys, Ne.symm e]
theorem keys_put (h : List UInt8) (n : Int) : ∀ l, keys (kput l h n) = if h ∈ keys l then keys l else keys l ++ [h]
  | [] => by simp [keys, kput]
  | y :: l => by
    unfold kput
    by_cases e : y.1 = h
    · rw [if_pos e, if_pos (by simp [keys, e])]; rfl
    · rw [if_neg e]
      have ih := keys_put h n l
      show y.1 :: keys (kput l h n) = _
      rw [ih]
      have hm : h ∈ keys (y :: l) ↔ h ∈ keys l := by simp [keys, Ne.symm e]
      by_cases hin : h ∈ keys l
      · rw [if_pos hin, if_pos (hm.2 hin)]; rfl
      · rw [if_neg hin, if_neg (fun x => hin (hm.1 x))]; rfl
theorem keys_put_nodup {l : En} (hl : (keys l).Nodup) (h : List UInt8) (n : Int) : (keys (kput l h n)).Nodup := by
  rw [keys_put]
  split
  · exact hl
  · rename_i hn
    rw [List.nodup_append]
    refine ⟨hl, by simp, fun a ha b hb e => ?_⟩
    rw [List.mem_singleton.1 hb] at e
    exact hn (e ▸ ha)
theorem kput_length (l : En) (h : List UInt8) (n : Int) : (kput l h n).length ≤ l.length + 1 := by
  rw [← keys_length, ← keys_length, keys_put]
  split
  · omega
  · simp
/-- Both hold the same. -/
def EqE (a b : En) : Prop := ∀ h, kget h a = kget h b
theorem EqE.refl (a : En) : EqE a a := fun _ => rfl
theorem EqE.symm {a b : En} (h : EqE a b) : EqE b a := fun x => (h x).symm
theorem EqE.trans {a b c : En} (h : EqE a b) (k : EqE b c) : EqE a c := fun x => (h x).trans (k x)
theorem EqE.mem {a b : En} (h : EqE a b) (x : List UInt8) : x ∈ keys a ↔ x ∈ keys b := by rw [← kget_some, ← kget_some, h x]
theorem EqE.put {a b : En} (h : EqE a b) (x : List UInt8) (n : Int) : EqE (kput a x n) (kput b x n) := fun g => by
  by_cases e : g = x
  · subst e; rw [kget_put_same, kget_put_same]
  · rw [kget_put_other x g n e, kget_put_other x g n e]; exact h g
/-- Puts of two hashes that differ may change places. -/
theorem kput_comm (a : En) {x y : List UInt8} (h : x ≠ y) (n m : Int) : EqE (kput (kput a x n) y m) (kput (kput a y m) x n) := fun g => by
  by_cases e1 : g = x
  · subst e1; rw [kget_put_other y g m h, kget_put_same, kget_put_same]
  · by_cases e2 : g = y
    · subst e2; rw [kget_put_same, kget_put_other x g n e1, kget_put_same]
    · rw [kget_put_other y g m e2, kget_put_other x g n e1, kget_put_other x g n e1, kget_put_other y g m e2]
/-- A put again of what is there changes nothing. -/
theorem kput_again {a : En} {x : List UInt8} {n : Int} (h : kget x a = some n) : EqE (kput a x n) a := fun g => by
  by_cases e : g = x
  · subst e; rw [kget_put_same, h]
  · rw [kget_put_other x g n e]
theorem EqE.sort {a b : En} (h : EqE a b) : rsort (keys a) = rsort (keys b) := asc_ext _ _ (rsort_asc _) (rsort_asc _) fun x => by rw [rsort_mem, rsort_mem, h.mem]
/-- What an ascending way of holding the entries tells. -/
theorem EqE.asc {a b : En} (h : EqE a b) (ha : Asc (keys a)) : keys a = rsort (keys b) := by rw [← h.sort]; exact (rsort_self ha).symm
theorem rput_len (h : List UInt8) : ∀ l, Asc l → (rput l h).length = if h ∈ l then l.length else l.length + 1
  | [], _ => by simp [rput]
  | x :: l, hl => by
    unfold rput
    by_cases h1 : bytesLess x h = true
    · rw [if_pos h1]
      have hne : h ≠ x := fun e => by rw [e, less_irrefl] at h1; cases h1
      have ih := rput_len h l (List.pairwise_cons.1 hl).2
      rw [List.length_cons, ih]
      by_cases hin : h ∈ l
      · rw [if_pos hin, if_pos (List.mem_cons_of_mem _ hin), List.length_cons]
      · rw [if_neg hin, if_neg (by simp [hne, hin]), List.length_cons]
    · rw [if_neg h1]
      by_cases h2 : x = h
      · rw [if_pos h2, if_pos (by simp [h2])]
      · rw [if_neg h2, if_neg ?_]
        · rfl
        · intro hm
          rcases List.mem_cons.1 hm with e | e
          · exact h2 e.symm
          · exact h1 ((List.pairwise_cons.1 hl).1 h e)
theorem rsort_go_length (l : List (List UInt8)) : ∀ s, Asc s → l.Nodup → (∀ x ∈ l, x ∉ s) → (l.foldl rput s).length = s.length + l.length := by
  induction l with
  | nil => intro s _ _ _; rfl
  | cons x l ih =>
    intro s hs hn hd
    have h1 := rput_len x s hs
    rw [if_neg (hd x List.mem_cons_self)] at h1
    have hn' := List.nodup_cons.1 hn
    rw [List.foldl_cons, ih _ (rput_asc x s hs) hn'.2 (fun y hy hm => ?_), h1, List.length_cons]
    · omega
    · rcases (rput_mem y x s).1 hm with e | e
      · exact hn'.1 (e ▸ hy)
      · exact hd y (List.mem_cons_of_mem _ hy) e
theorem rsort_len {l : List (List UInt8)} (h : l.Nodup) : (rsort l).length = l.length := by
  have := rsort_go_length l [] .nil h (fun _ _ hm => by cases hm)
  simpa [rsort] using this
/-- Both hold as many. -/
theorem EqE.count {a b : En} (h : EqE a b) (ha : (keys a).Nodup) (hb : (keys b).Nodup) : a.length = b.length := by
  rw [← keys_length, ← keys_length, ← rsort_len ha, ← rsort_len hb, h.sort]
theorem asc_nodup {l : List (List UInt8)} (h : Asc l) : l.Nodup := h.imp fun {a b} hab e => by rw [e, less_irrefl] at hab; cases hab
end Go.Proofs.YtbpccbhlggcmfaaGreatDoor
namespace Go.Proofs.YtbpccbhlggcmfaaGreatDoor
open Go.Op

/-- A node: its block (and its array's), and what it holds. -/
inductive Nd
  | none
  | leaf (b : Nat) (h : List UInt8) (m : Int)
  | fork (b g : Nat) (ws : Fin 16 → Nd)
def fins : List (Fin 16) := List.finRange 16
theorem fins_mem (i : Fin 16) : i ∈ fins := List.mem_finRange i
theorem fins_nodup : fins.Nodup := List.nodup_finRange 16
theorem fins_lt : fins.Pairwise (· < ·) := by decide
def Nd.ents : Nd → En
  | .none => []
  | .leaf _ h m => [(h, m)]
  | .fork _ _ ws => fins.flatMap fun i => (ws i).ents
/-- Digit k of a hash. -/
def dig (h : List UInt8) (k : Nat) : Fin 16 := ⟨(und ((tx h).getD k 48)).toNat % 16, Nat.mod_lt _ (by decide)⟩
def Nd.lk : Nd → Nat → List UInt8 → Option Int
  | .none, _, _ => Option.none
  | .leaf _ h m, _, x => if h = x then some m else Option.none
  | .fork _ _ ws, k, x => (ws (dig x k)).lk (k + 1) x
def Nd.Wf : Nd → List UInt8 → Prop
  | .none, _ => True
  | .leaf _ h _, p => h.length = 32 ∧ p <+: tx h
  | .fork b g ws, p => p.length < 64 ∧ (∀ i, (ws i).Wf (p ++ [dg i])) ∧ 2 ≤ (Nd.fork b g ws).ents.length
set_option maxRecDepth 20000 in
theorem tx_digit {c : UInt8} (h : 0 ≤ und c) : c = dg (und c).toNat := by
  unfold und at h ⊢
  have key : ∀ n : Fin 256, (48 ≤ n.val ∧ n.val ≤ 57 → UInt8.ofNat n.val = dg (n.val - 48)) ∧ (97 ≤ n.val ∧ n.val ≤ 102 → UInt8.ofNat n.val = dg (n.val - 87)) := by decide
  have hc := key ⟨c.toNat, c.toNat_lt⟩
  simp only [UInt8.ofNat_toNat] at hc
  split
  · rename_i h1
    rw [show ((c.toNat : Int) - 48).toNat = c.toNat - 48 from by omega]
    exact hc.1 h1
  · split
    · rename_i h1
      rw [show ((c.toNat : Int) - 87).toNat = c.toNat - 87 from by omega]
      exact hc.2 h1
    · rename_i h1 h2
      rw [if_neg h1, if_neg h2] at h
      exact absurd h (by decide)
theorem dig_at {h : List UInt8} {k : Nat} (hh : h.length = 32) (hk : k < 64) : (tx h)[k]? = some (dg (dig h k)) := by
  have hl : k < (tx h).length := by rw [tx_length, hh]; omega
  have hd : 0 ≤ und (tx h)[k] := by
    have := tx_digs h
    unfold digs at this
    rw [List.all_eq_true] at this
    simpa using this _ (List.getElem_mem hl)
  have h15 := und_hi (tx h)[k]
  rw [List.getElem?_eq_getElem hl]
  have e : dig h k = ⟨(und (tx h)[k]).toNat, by omega⟩ := by
    unfold dig
    simp only [List.getD_eq_getElem?_getD, List.getElem?_eq_getElem hl, Option.getD_some]
    congr 1
    omega
  rw [e, ← tx_digit hd]
theorem dig_pre {h p : List UInt8} (hh : h.length = 32) (hp : p <+: tx h) (hk : p.length < 64) : p ++ [dg (dig h p.length)] <+: tx h := by
  obtain ⟨r, hr⟩ := hp
  have h1 := dig_at hh hk
  rw [← hr, List.getElem?_append_right (Nat.le_refl _), Nat.sub_self] at h1
  cases r with
  | nil => simp at h1
  | cons c r =>
    simp only [List.getElem?_cons_zero, Option.some.injEq] at h1
    rw [← hr, ← h1]
    exact ⟨r, by simp⟩
theorem dg_inj {i j : Fin 16} (h : dg i = dg j) : i = j := by
  have h1 := dg_und i i.2
  have h2 := dg_und j j.2
  rw [h] at h1
  exact Fin.ext (by omega)
theorem pre_dig {h p : List UInt8} {i : Fin 16} (hh : h.length = 32) (hp : p ++ [dg i] <+: tx h) : i = dig h p.length := by
  have hl := hp.length_le
  rw [tx_length, hh, List.length_append, List.length_singleton] at hl
  have h1 := dig_at (k := p.length) hh (by omega)
  obtain ⟨r, hr⟩ := hp
  rw [← hr] at h1
  simp at h1
  exact dg_inj h1
theorem pre_weak {p x : List UInt8} {c : UInt8} (h : p ++ [c] <+: x) : p <+: x := (List.prefix_append p [c]).trans h
/-- All keys begin as the place says. -/
theorem Nd.Wf.mem : ∀ {t : Nd} {p : List UInt8}, t.Wf p → ∀ {e : List UInt8 × Int}, e ∈ t.ents → e.1.length = 32 ∧ p <+: tx e.1
  | .none, _, _, _, he => by cases he
  | .leaf _ h m, _, hw, e, he => by
    rw [List.mem_singleton.1 he]; exact hw
  | .fork b g ws, p, hw, e, he => by
    obtain ⟨i, _, hi⟩ := List.mem_flatMap.1 he
    have h1 := (hw.2.1 i).mem hi
    exact ⟨h1.1, pre_weak h1.2⟩
theorem kget_app (x : List UInt8) : ∀ a b : En, kget x (a ++ b) = (kget x a).or (kget x b)
  | [], b => by simp [kget]
  | y :: a, b => by
    show (if y.1 = x then some y.2 else kget x (a ++ b)) = (if y.1 = x then some y.2 else kget x a).or (kget x b)
    by_cases e : y.1 = x
    · rw [if_pos e, if_pos e]; rfl
    · rw [if_neg e, if_neg e, kget_app x a b]
theorem kget_none {x : List UInt8} {a : En} (h : x ∉ keys a) : kget x a = none := by
  cases hk : kget x a with
  | none => rfl
  | some v => exact absurd ((kget_some x a).1 (by rw [hk]; rfl)) h
theorem kget_flat {x : List UInt8} {f : Fin 16 → En} {i : Fin 16} (h : ∀ j, j ≠ i → x ∉ keys (f j)) : ∀ L : List (Fin 16), kget x (L.flatMap f) = if i ∈ L then kget x (f i) else none
  | [] => by simp [kget]
  | j :: L => by
    rw [List.flatMap_cons, kget_app, kget_flat h L]
    by_cases e : j = i
    · subst e
      rw [if_pos List.mem_cons_self]
      split
      · cases kget x (f j) <;> rfl
      · cases kget x (f j) <;> rfl
    · rw [kget_none (h j e)]
      have : i ∈ j :: L ↔ i ∈ L := by simp [Ne.symm e]
      rw [Option.none_or]
      by_cases hi : i ∈ L
      · rw [if_pos hi, if_pos (this.2 hi)]
      · rw [if_neg hi, if_neg (fun h => hi (this.1 h))]
theorem Nd.Wf.notmem {t : Nd} {p x : List UInt8} (h : t.Wf p) (hx : ¬ p <+: tx x) : x ∉ keys t.ents := fun hm => by
  obtain ⟨e, he, rfl⟩ := List.mem_map.1 hm
  exact hx (h.mem he).2
/-- What is looked up by its digits is what the tree holds. -/
theorem Nd.Wf.kget : ∀ {t : Nd} {p : List UInt8}, t.Wf p → ∀ {x : List UInt8}, x.length = 32 → p <+: tx x → Go.Proofs.YtbpccbhlggcmfaaGreatDoor.kget x t.ents = t.lk p.length x
  | .none, _, _, _, _, _ => rfl
  | .leaf _ h m, _, _, x, _, _ => by
    show Go.Proofs.YtbpccbhlggcmfaaGreatDoor.kget x [(h, m)] = if h = x then some m else Option.none
    simp [Go.Proofs.YtbpccbhlggcmfaaGreatDoor.kget]
  | .fork b g ws, p, hw, x, hx, hp => by
    have hd := dig_pre hx hp hw.1
    show Go.Proofs.YtbpccbhlggcmfaaGreatDoor.kget x (fins.flatMap fun i => (ws i).ents) = (ws (dig x p.length)).lk (p.length + 1) x
    rw [kget_flat (i := dig x p.length) (fun j hj => (hw.2.1 j).notmem (fun h => hj (pre_dig hx h))), if_pos (fins_mem _), (hw.2.1 _).kget hx hd, List.length_append, List.length_singleton]
theorem less_pre {p a b : List UInt8} {i j : Fin 16} (h : i < j) (ha : p ++ [dg i] <+: a) (hb : p ++ [dg j] <+: b) : bytesLess a b = true := by
  obtain ⟨r, rfl⟩ := ha
  obtain ⟨s, rfl⟩ := hb
  induction p with
  | nil =>
    have := dg_lt i i.2 j j.2
    have h2 : dg i < dg j := by
      rw [decide_eq_decide] at this
      exact this.2 h
    simp [bytesLess, h2]
  | cons x p ih =>
    simp only [List.cons_append, bytesLess]
    simp only [List.append_assoc, List.singleton_append] at ih
    simp [ih]
/-- The keys are told in ascending order. -/
theorem Nd.Wf.asc : ∀ {t : Nd} {p : List UInt8}, t.Wf p → Asc (keys t.ents)
  | .none, _, _ => .nil
  | .leaf _ _ _, _, _ => List.pairwise_singleton _ _
  | .fork b g ws, p, hw => by
    have h1 : ∀ L : List (Fin 16), L.Pairwise (· < ·) → Asc (keys (L.flatMap fun i => (ws i).ents)) := by
      intro L
      induction L with
      | nil => intro _; exact .nil
      | cons i L ih =>
        intro hL
        obtain ⟨h2, h3⟩ := List.pairwise_cons.1 hL
        rw [List.flatMap_cons, keys, List.map_append]
        refine List.pairwise_append.2 ⟨(hw.2.1 i).asc, ih h3, fun a ha b hb => ?_⟩
        obtain ⟨e, he, rfl⟩ := List.mem_map.1 ha
        obtain ⟨f, hf, rfl⟩ := List.mem_map.1 hb
        obtain ⟨j, hj, hf⟩ := List.mem_flatMap.1 hf
        have h4 := (hw.2.1 i).mem he
        have h5 := (hw.2.1 j).mem hf
        rw [← tx_less _ _ (by rw [h4.1, h5.1])]
        exact less_pre (h2 j hj) h4.2 h5.2
    exact h1 fins fins_lt
theorem Nd.Wf.nodup {t : Nd} {p : List UInt8} (h : t.Wf p) : (keys t.ents).Nodup := asc_nodup h.asc
/-- The node to which only what begins with s belongs. -/
def Nd.fnd : Nd → List UInt8 → Nd
  | t, [] => t
  | .none, _ => .none
  | .leaf b h m, _ => .leaf b h m
  | .fork _ _ ws, c :: s => (ws ⟨(und c).toNat % 16, Nat.mod_lt _ (by decide)⟩).fnd s
theorem fnd_nil (t : Nd) : t.fnd [] = t := by cases t <;> rfl
theorem fnd_none (s : List UInt8) : Nd.none.fnd s = .none := by cases s <;> rfl
theorem fnd_leaf (b : Nat) (h : List UInt8) (m : Int) (s : List UInt8) : (Nd.leaf b h m).fnd s = .leaf b h m := by cases s <;> rfl
theorem fnd_fork (b g : Nat) (ws : Fin 16 → Nd) (c : UInt8) (s : List UInt8) : (Nd.fork b g ws).fnd (c :: s) = (ws ⟨(und c).toNat % 16, Nat.mod_lt _ (by decide)⟩).fnd s := rfl
/-- What find answers. -/
def Nd.fin (s : List UInt8) : Nd → Nd
  | .none => .none
  | .leaf b h m => if s <+: tx h then .leaf b h m else .none
  | t => t
theorem pre_iff (s x : List UInt8) : s.isPrefixOf x = decide (s <+: x) := by
  rw [Bool.eq_iff_iff]; simp [List.isPrefixOf_iff_prefix]
/-- All that begins so, and nothing else. -/
theorem fnd_ents : ∀ (s : List UInt8) {t : Nd} {p : List UInt8}, t.Wf p → digs s = true → ((t.fnd s).fin (p ++ s)).ents = t.ents.filter fun e => (p ++ s).isPrefixOf (tx e.1)
  | [], t, p, hw, _ => by
    rw [fnd_nil, List.append_nil]
    have h1 : t.ents.filter (fun e => p.isPrefixOf (tx e.1)) = t.ents := List.filter_eq_self.2 fun e he => by rw [pre_iff]; simp [(hw.mem he).2]
    rw [h1]
    cases t with
    | none => rfl
    | leaf b h m => show (if p <+: tx h then Nd.leaf b h m else Nd.none).ents = _; rw [if_pos hw.2]
    | fork b g ws => rfl
  | c :: s, .none, _, _, _ => rfl
  | c :: s, .leaf b h m, p, hw, _ => by
    show (Nd.fin (p ++ c :: s) (.leaf b h m)).ents = [(h, m)].filter _
    show (if p ++ c :: s <+: tx h then Nd.leaf b h m else Nd.none).ents = _
    by_cases e : p ++ c :: s <+: tx h
    · rw [if_pos e, List.filter_cons_of_pos (by rw [pre_iff]; simp [e])]; rfl
    · rw [if_neg e, List.filter_cons_of_neg (by rw [pre_iff]; simp [e])]; rfl
  | c :: s, .fork b g ws, p, hw, hd => by
    rw [fnd_fork]
    have hd' : 0 ≤ und c ∧ digs s = true := by unfold digs at hd ⊢; simpa using hd
    have h15 := und_hi c
    generalize hi : (⟨(und c).toNat % 16, Nat.mod_lt _ (by decide)⟩ : Fin 16) = i
    have hc : c = dg i := by
      rw [← hi]
      show c = dg ((und c).toNat % 16)
      rw [Nat.mod_eq_of_lt (by omega)]; exact tx_digit hd'.1
    have h1 := fnd_ents s (hw.2.1 i) hd'.2
    have e1 : p ++ c :: s = p ++ [dg i] ++ s := by rw [hc]; simp
    rw [e1, h1]
    show _ = (fins.flatMap fun i => (ws i).ents).filter _
    rw [List.filter_flatMap]
    have h2 : ∀ L : List (Fin 16), L.Nodup → (L.flatMap fun j => (ws j).ents.filter fun e => (p ++ [dg i] ++ s).isPrefixOf (tx e.1)) = if i ∈ L then (ws i).ents.filter (fun e => (p ++ [dg i] ++ s).isPrefixOf (tx e.1)) else [] := by
      intro L
      induction L with
      | nil => intro _; simp
      | cons j L ih =>
        intro hL
        obtain ⟨h3, h4⟩ := List.nodup_cons.1 hL
        rw [List.flatMap_cons, ih h4]
        by_cases e : j = i
        · subst e
          rw [if_neg h3, if_pos List.mem_cons_self, List.append_nil]
        · have h5 : (ws j).ents.filter (fun e => (p ++ [dg i] ++ s).isPrefixOf (tx e.1)) = [] := by
            rw [List.filter_eq_nil_iff]
            intro x hx h
            rw [pre_iff] at h
            have h6 := (hw.2.1 j).mem hx
            have h7 : p ++ [dg i] <+: tx x.1 := (List.prefix_append _ s).trans (of_decide_eq_true h)
            exact e ((pre_dig h6.1 h6.2).trans (pre_dig h6.1 h7).symm)
          rw [h5, List.nil_append]
          have : i ∈ j :: L ↔ i ∈ L := by simp [Ne.symm e]
          by_cases hi : i ∈ L
          · rw [if_pos hi, if_pos (this.2 hi)]
          · rw [if_neg hi, if_neg (fun h => hi (this.1 h))]
    rw [h2 fins fins_nodup, if_pos (fins_mem i)]
end Go.Proofs.YtbpccbhlggcmfaaGreatDoor
namespace Go.Proofs.YtbpccbhlggcmfaaGreatDoor
open Go.Op

/-- A number's other value at one place. -/
def upn {α : Type} (f : Nat → α) (b : Nat) (x : α) : Nat → α := fun k => if k = b then x else f k
theorem upn_same {α : Type} (f : Nat → α) (b : Nat) (x : α) : upn f b x b = x := if_pos rfl
theorem upn_other {α : Type} (f : Nat → α) {b k : Nat} (x : α) (h : k ≠ b) : upn f b x k = f k := if_neg h
def upw (ws : Fin 16 → Nd) (i : Fin 16) (c : Nd) : Fin 16 → Nd := fun j => if j = i then c else ws j
theorem upw_same (ws : Fin 16 → Nd) (i : Fin 16) (c : Nd) : upw ws i c i = c := if_pos rfl
theorem upw_other (ws : Fin 16 → Nd) {i j : Fin 16} (c : Nd) (h : j ≠ i) : upw ws i c j = ws j := if_neg h
/-- The number of a node's record. -/
def Nd.rec' (ρ : Nat → Nat) : Nd → Nat
  | .none => 0
  | .leaf b _ _ => ρ b
  | .fork b _ _ => ρ b
/-- How many nodes have no record. -/
def Nd.nun (ρ : Nat → Nat) : Nd → Nat
  | .none => 0
  | .leaf b _ _ => if ρ b = 0 then 1 else 0
  | .fork b _ ws => (if ρ b = 0 then 1 else 0) + (fins.map fun i => (ws i).nun ρ).sum
/-- The blocks of a tree. -/
def Nd.Bl : Nd → Nat → Prop
  | .none, _ => False
  | .leaf b _ _, k => k = b
  | .fork b g ws, k => k = b ∨ k = g ∨ ∃ i, (ws i).Bl k
/-- No block twice. -/
def Nd.Sep : Nd → Prop
  | .none => True
  | .leaf _ _ _ => True
  | .fork b g ws => b ≠ g ∧ (∀ i, ¬ (ws i).Bl b ∧ ¬ (ws i).Bl g ∧ (ws i).Sep) ∧ ∀ i j k, i ≠ j → (ws i).Bl k → ¬ (ws j).Bl k
/-- A record's body. -/
def vb (n : Int) : List Int := leb 9 (Go.IntKind.u64.wrap n)
def lrec (h : List UInt8) (m : Int) : List Int := nmb h ++ vb m
def frec (ρ : Nat → Nat) (ws : Fin 16 → Nd) : List Int := fins.flatMap fun i => vb ((ws i).rec' ρ : Int)
/-- What is said to be saved is. -/
def Nd.Sv (ρ : Nat → Nat) (R : List (Int × List Int)) : Nd → Prop
  | .none => True
  | .leaf b h m => ρ b ≠ 0 → R[ρ b - 1]? = some (1, lrec h m)
  | .fork b _ ws => (∀ i, (ws i).Sv ρ R) ∧ (ρ b ≠ 0 → R[ρ b - 1]? = some (2, frec ρ ws) ∧ ∀ i, (ws i).rec' ρ < ρ b ∧ (ws i ≠ .none → (ws i).rec' ρ ≠ 0))
/-- No number is negative or too great. -/
def Nd.Num : Nd → Prop
  | .none => True
  | .leaf _ _ m => 0 ≤ m ∧ m ≤ 1000000
  | .fork _ _ ws => ∀ i, (ws i).Num

theorem rec_agree {ρ σ : Nat → Nat} : ∀ {t : Nd}, (∀ k, t.Bl k → σ k = ρ k) → t.rec' σ = t.rec' ρ
  | .none, _ => rfl
  | .leaf b _ _, h => h b rfl
  | .fork b _ _, h => h b (.inl rfl)
theorem nun_agree {ρ σ : Nat → Nat} : ∀ {t : Nd}, (∀ k, t.Bl k → σ k = ρ k) → t.nun σ = t.nun ρ
  | .none, _ => rfl
  | .leaf b _ _, h => by show (if σ b = 0 then 1 else 0) = _; rw [h b rfl]; rfl
  | .fork b _ ws, h => by
    show (if σ b = 0 then 1 else 0) + (fins.map fun i => (ws i).nun σ).sum = _
    rw [h b (.inl rfl)]
    have : (fun i => (ws i).nun σ) = fun i => (ws i).nun ρ := funext fun i => nun_agree fun k hk => h k (.inr (.inr ⟨i, hk⟩))
    rw [this]; rfl
theorem sv_agree {ρ σ : Nat → Nat} {R : List (Int × List Int)} : ∀ {t : Nd}, (∀ k, t.Bl k → σ k = ρ k) → t.Sv ρ R → t.Sv σ R
  | .none, _, _ => trivial
  | .leaf b h m, hb, hs => by show σ b ≠ 0 → R[σ b - 1]? = _; rw [hb b rfl]; exact hs
  | .fork b g ws, hb, hs => by
    have h1 : ∀ i, (ws i).rec' σ = (ws i).rec' ρ := fun i => rec_agree fun k hk => hb k (.inr (.inr ⟨i, hk⟩))
    refine ⟨fun i => sv_agree (fun k hk => hb k (.inr (.inr ⟨i, hk⟩))) (hs.1 i), ?_⟩
    have h2 : frec σ ws = frec ρ ws := by
      unfold frec
      exact congrArg (fun f => fins.flatMap f) (funext fun i => by rw [h1 i])
    rw [hb b (.inl rfl), h2]
    intro h0
    refine ⟨(hs.2 h0).1, fun i => ?_⟩
    rw [h1 i]; exact (hs.2 h0).2 i
theorem sv_grow {ρ : Nat → Nat} {R : List (Int × List Int)} (T : List (Int × List Int)) : ∀ {t : Nd}, t.Sv ρ R → t.Sv ρ (R ++ T)
  | .none, _ => trivial
  | .leaf b h m, hs => fun h0 => by rw [List.getElem?_append_left (List.getElem?_eq_some_iff.1 (hs h0)).1]; exact hs h0
  | .fork b g ws, hs => ⟨fun i => sv_grow T (hs.1 i), fun h0 => ⟨by rw [List.getElem?_append_left (List.getElem?_eq_some_iff.1 (hs.2 h0).1).1]; exact (hs.2 h0).1, (hs.2 h0).2⟩⟩
theorem upw_len (ws : Fin 16 → Nd) (i : Fin 16) (c : Nd) : ∀ L : List (Fin 16), L.Nodup → (L.flatMap fun j => (upw ws i c j).ents).length + (if i ∈ L then (ws i).ents.length else 0) = (L.flatMap fun j => (ws j).ents).length + if i ∈ L then c.ents.length else 0
  | [], _ => by simp
  | j :: L, hL => by
    obtain ⟨h3, h4⟩ := List.nodup_cons.1 hL
    have ih := upw_len ws i c L h4
    rw [List.flatMap_cons, List.flatMap_cons, List.length_append, List.length_append]
    by_cases e : j = i
    · subst e
      rw [if_neg h3, if_neg h3] at ih
      rw [if_pos List.mem_cons_self, if_pos List.mem_cons_self, upw_same]
      omega
    · have : i ∈ j :: L ↔ i ∈ L := by simp [Ne.symm e]
      rw [upw_other ws c e]
      by_cases hi : i ∈ L
      · rw [if_pos hi, if_pos hi] at ih
        rw [if_pos (this.2 hi), if_pos (this.2 hi)]
        omega
      · rw [if_neg hi, if_neg hi] at ih
        rw [if_neg (fun h => hi (this.1 h)), if_neg (fun h => hi (this.1 h))]
        omega
theorem fork_len (b g b' g' : Nat) (ws : Fin 16 → Nd) (i : Fin 16) (c : Nd) : (Nd.fork b g (upw ws i c)).ents.length + (ws i).ents.length = (Nd.fork b' g' ws).ents.length + c.ents.length := by
  have := upw_len ws i c fins fins_nodup
  rw [if_pos (fins_mem i), if_pos (fins_mem i)] at this
  exact this
theorem upw_sum {f f' : Fin 16 → Nat} (i : Fin 16) (h : ∀ j, j ≠ i → f' j = f j) : ∀ L : List (Fin 16), L.Nodup → (L.map f').sum + (if i ∈ L then f i else 0) = (L.map f).sum + if i ∈ L then f' i else 0
  | [], _ => by simp
  | j :: L, hL => by
    obtain ⟨h3, h4⟩ := List.nodup_cons.1 hL
    have ih := upw_sum i h L h4
    rw [List.map_cons, List.map_cons, List.sum_cons, List.sum_cons]
    by_cases e : j = i
    · subst e
      rw [if_neg h3, if_neg h3] at ih
      rw [if_pos List.mem_cons_self, if_pos List.mem_cons_self]
      omega
    · have : i ∈ j :: L ↔ i ∈ L := by simp [Ne.symm e]
      rw [h j e]
      by_cases hi : i ∈ L
      · rw [if_pos hi, if_pos hi] at ih
        rw [if_pos (this.2 hi), if_pos (this.2 hi)]
        omega
      · rw [if_neg hi, if_neg hi] at ih
        rw [if_neg (fun h => hi (this.1 h)), if_neg (fun h => hi (this.1 h))]
        omega
/-- A put of h with m: t before, t' behind it; ρ and σ are the records. -/
structure PutS (p h : List UInt8) (m : Int) (ρ σ : Nat → Nat) (t t' : Nd) : Prop where
  wf : t'.Wf p
  lk : ∀ x, x.length = 32 → p <+: tx x → t'.lk p.length x = if x = h then some m else t.lk p.length x
  cnt : t'.ents.length = t.ents.length + if t.lk p.length h = none then 1 else 0
  nun : t'.nun σ ≤ t.nun ρ + (65 - p.length)
  sv : ∀ R, t.Sv ρ R → t'.Sv σ R
  num : t.Num → t'.Num
section
variable {p h : List UInt8} {m : Int} {ρ σ : Nat → Nat} {b g : Nat} {i : Fin 16}
/-- At a place where there is nothing. -/
theorem puts_none (hh : h.length = 32) (hp : p <+: tx h) (h0 : σ b = 0) (hm : 0 ≤ m ∧ m ≤ 1000000) : PutS p h m ρ σ .none (.leaf b h m) where
  wf := ⟨hh, hp⟩
  lk x _ _ := by
    show (if h = x then some m else none) = if x = h then some m else none
    by_cases e : x = h
    · rw [if_pos e, if_pos e.symm]
    · rw [if_neg e, if_neg (Ne.symm e)]
  cnt := rfl
  nun := by
    have := hp.length_le
    rw [tx_length, hh] at this
    show (if σ b = 0 then 1 else 0) ≤ 0 + (65 - p.length)
    rw [if_pos h0]; omega
  sv _ _ h1 := absurd h0 h1
  num _ := hm
/-- Where the hash lies already. -/
theorem puts_leaf {b' : Nat} {m' : Int} (hh : h.length = 32) (hp : p <+: tx h) (h0 : σ b = 0) (hm : 0 ≤ m ∧ m ≤ 1000000) : PutS p h m ρ σ (.leaf b' h m') (.leaf b h m) where
  wf := ⟨hh, hp⟩
  lk x _ _ := by
    show (if h = x then some m else none) = if x = h then some m else if h = x then some m' else none
    by_cases e : x = h
    · rw [if_pos e, if_pos e.symm]
    · rw [if_neg e, if_neg (Ne.symm e), if_neg (Ne.symm e)]
  cnt := by
    show 1 = 1 + if (if h = h then some m' else none) = none then 1 else 0
    rw [if_pos rfl]; rfl
  nun := by
    have := hp.length_le
    rw [tx_length, hh] at this
    show (if σ b = 0 then 1 else 0) ≤ _ + (65 - p.length)
    rw [if_pos h0]; omega
  sv _ _ h1 := absurd h0 h1
  num _ := hm
/-- A fork on the way to h: of t itself, or made of it. -/
structure Mid (p h : List UInt8) (ρ : Nat → Nat) (t : Nd) (ws : Fin 16 → Nd) : Prop where
  len : p.length < 64
  wf : ∀ i, (ws i).Wf (p ++ [dg i])
  lk : ∀ x, x.length = 32 → p <+: tx x → (ws (dig x p.length)).lk (p.length + 1) x = t.lk p.length x
  cnt : (Nd.fork 0 0 ws).ents.length = t.ents.length
  two : 2 ≤ t.ents.length ∨ (1 ≤ t.ents.length ∧ t.lk p.length h = none)
  nun : (fins.map fun i => (ws i).nun ρ).sum ≤ t.nun ρ
  sv : ∀ R, t.Sv ρ R → ∀ i, (ws i).Sv ρ R
  num : t.Num → ∀ i, (ws i).Num
theorem mid_fork {ws : Fin 16 → Nd} (hw : (Nd.fork b g ws).Wf p) : Mid p h ρ (.fork b g ws) ws where
  len := hw.1
  wf := hw.2.1
  lk _ _ _ := rfl
  cnt := rfl
  two := .inl hw.2.2
  nun := Nat.le_add_left _ _
  sv _ hs := hs.1
  num hn := hn
def lone (t : Nd) (i : Fin 16) : Fin 16 → Nd := upw (fun _ => .none) i t
theorem lone_ents (t : Nd) (i : Fin 16) : (Nd.fork 0 0 (lone t i)).ents.length = t.ents.length := by
  have := fork_len 0 0 0 0 (fun _ => .none) i t
  have h0 : (Nd.fork 0 0 (fun _ => .none)).ents = [] := by
    show (fins.flatMap fun _ => []) = []
    simp
  rw [h0] at this
  have h1 : Nd.none.ents.length = 0 := rfl
  rw [h1] at this
  unfold lone
  simpa using this
theorem mid_leaf {h' : List UInt8} {m' : Int} (hw : (Nd.leaf b h' m').Wf p) (hh : h.length = 32) (hp : p <+: tx h) (hne : h' ≠ h) : Mid p h ρ (.leaf b h' m') (lone (.leaf b h' m') (dig h' p.length)) := by
  have hlt : p.length < 64 := by
    have h1 := hw.2.length_le
    rw [tx_length, hw.1] at h1
    by_cases h2 : p.length < 64
    · exact h2
    · have e1 := hw.2.eq_of_length (by rw [tx_length, hw.1]; omega)
      have e2 := hp.eq_of_length (by rw [tx_length, hh]; omega)
      exact absurd (tx_inj (e1.symm.trans e2)) hne
  have hd := dig_pre hw.1 hw.2 hlt
  refine { len := hlt, wf := fun i => ?_, lk := fun x hx hpx => ?_, cnt := lone_ents _ _, two := .inr ⟨Nat.le_refl _, if_neg hne⟩, nun := ?_, sv := fun R hs i => ?_, num := fun hn i => ?_ }
  · by_cases e : i = dig h' p.length
    · subst e; rw [lone, upw_same]; exact ⟨hw.1, hd⟩
    · rw [lone, upw_other _ _ e]; trivial
  · by_cases e : dig x p.length = dig h' p.length
    · rw [e, lone, upw_same]; rfl
    · rw [lone, upw_other _ _ e]
      show Option.none = if h' = x then some m' else Option.none
      rw [if_neg (fun e2 => e (by rw [e2]))]
  · have h1 := upw_sum (f := fun _ => 0) (f' := fun i => (lone (.leaf b h' m') (dig h' p.length) i).nun ρ) (dig h' p.length) (fun j hj => by show (lone _ _ j).nun ρ = 0; rw [lone, upw_other _ _ hj]; rfl) fins fins_nodup
    rw [if_pos (fins_mem _), if_pos (fins_mem _)] at h1
    have h2 : (fins.map fun _ : Fin 16 => 0).sum = 0 := by decide
    rw [h2] at h1
    have h3 : (lone (.leaf b h' m') (dig h' p.length) (dig h' p.length)).nun ρ = (Nd.leaf b h' m').nun ρ := by rw [lone, upw_same]
    rw [h3] at h1
    omega
  · by_cases e : i = dig h' p.length
    · subst e; rw [lone, upw_same]; exact hs
    · rw [lone, upw_other _ _ e]; trivial
  · by_cases e : i = dig h' p.length
    · subst e; rw [lone, upw_same]; exact hn
    · rw [lone, upw_other _ _ e]; trivial
/-- What is put below a fork is put into it. -/
theorem Mid.put {t c' : Nd} {ws : Fin 16 → Nd} (M : Mid p h ρ t ws) (hh : h.length = 32) (hp : p <+: tx h) (hi : i = dig h p.length) {ρ1 : Nat → Nat} (hρ : ∀ j k, (ws j).Bl k → ρ1 k = ρ k) (hP : PutS (p ++ [dg i]) h m ρ1 σ (ws i) c')
    (h0 : σ b = 0) (hσ : ∀ j k, j ≠ i → (ws j).Bl k → σ k = ρ k) : PutS p h m ρ σ t (.fork b g (upw ws i c')) := by
  have hl1 : (p ++ [dg i]).length = p.length + 1 := by simp
  have hcn := hP.cnt
  have hlk := M.lk h hh hp
  have hlen := fork_len b g 0 0 ws i c'
  have hcnt := M.cnt
  rw [hl1, hi, hlk, ← hi] at hcn
  have htwo := M.two
  have hC : (Nd.fork b g (upw ws i c')).ents.length = t.ents.length + if t.lk p.length h = none then 1 else 0 := by omega
  refine { wf := ⟨M.len, fun j => ?_, ?_⟩, lk := fun x hx hpx => ?_, cnt := hC, nun := ?_, sv := fun R hs => ⟨fun j => ?_, fun h1 => absurd h0 h1⟩, num := fun hn j => ?_ }
  · by_cases e : j = i
    · subst e; rw [upw_same]; exact hP.wf
    · rw [upw_other _ _ e]; exact M.wf j
  · rw [hC]
    rcases htwo with h2 | ⟨h2, h3⟩
    · omega
    · rw [if_pos h3]; omega
  · show (upw ws i c' (dig x p.length)).lk (p.length + 1) x = _
    by_cases e : dig x p.length = i
    · have h2 : p ++ [dg i] <+: tx x := e ▸ dig_pre hx hpx M.len
      have h1 := hP.lk x hx h2
      rw [hl1] at h1
      rw [e, upw_same, h1, ← M.lk x hx hpx, e]
    · rw [upw_other _ _ e, M.lk x hx hpx, if_neg (fun e2 => e (by rw [e2, hi]))]
  · show (if σ b = 0 then 1 else 0) + (fins.map fun j => (upw ws i c' j).nun σ).sum ≤ _
    rw [if_pos h0]
    have h1 := upw_sum (f := fun j => (ws j).nun ρ) (f' := fun j => (upw ws i c' j).nun σ) i (fun j hj => by show (upw ws i c' j).nun σ = _; rw [upw_other _ _ hj]; exact nun_agree fun k hk => hσ j k hj hk) fins fins_nodup
    rw [if_pos (fins_mem _), if_pos (fins_mem _)] at h1
    have h2 : (upw ws i c' i).nun σ = c'.nun σ := by rw [upw_same]
    rw [h2] at h1
    have h3 := hP.nun
    rw [hl1, nun_agree (fun k hk => hρ i k hk)] at h3
    have h4 := M.nun
    have h5 := M.len
    omega
  · by_cases e : j = i
    · subst e; rw [upw_same]; exact hP.sv R (sv_agree (fun k hk => hρ j k hk) (M.sv R hs j))
    · rw [upw_other _ _ e]; exact sv_agree (fun k hk => hσ j k e hk) (M.sv R hs j)
  · by_cases e : j = i
    · subst e; rw [upw_same]; exact hP.num (M.num hn j)
    · rw [upw_other _ _ e]; exact M.num hn j
end
end Go.Proofs.YtbpccbhlggcmfaaGreatDoor
namespace Go.Proofs.YtbpccbhlggcmfaaGreatDoor
open Go.Op

def Nd.blk : Nd → Nat
  | .none => 0
  | .leaf b _ _ => b
  | .fork b _ _ => b
/-- The nodes without a record, those below first. -/
def Nd.usn (ρ : Nat → Nat) : Nd → List Nd
  | .none => []
  | .leaf b h m => if ρ b = 0 then [.leaf b h m] else []
  | .fork b g ws => if ρ b = 0 then (fins.flatMap fun i => (ws i).usn ρ) ++ [.fork b g ws] else []
def Nd.body (ρ : Nat → Nat) : Nd → Int × List Int
  | .none => (0, [])
  | .leaf _ h m => (1, lrec h m)
  | .fork _ _ ws => (2, frec ρ ws)
abbrev Sav := (Nat → Nat) × List (Int × List Int)
def sav1 (z : Sav) (s : Nd) : Sav := (upn z.1 s.blk (z.2.length + 1), z.2 ++ [s.body z.1])
def savs (z : Sav) (l : List Nd) : Sav := l.foldl sav1 z
theorem savs_nil (z : Sav) : savs z [] = z := rfl
theorem savs_app (z : Sav) (l m : List Nd) : savs z (l ++ m) = savs (savs z l) m := List.foldl_append ..
theorem savs_snoc (z : Sav) (l : List Nd) (s : Nd) : savs z (l ++ [s]) = sav1 (savs z l) s := by rw [savs_app]; rfl
/-- A node of the tree. -/
def Nd.In (s : Nd) : Nd → Prop
  | .none => False
  | .leaf b h m => s = .leaf b h m
  | .fork b g ws => s = .fork b g ws ∨ ∃ i, s.In (ws i)
theorem usn_in {ρ : Nat → Nat} : ∀ {t s : Nd}, s ∈ t.usn ρ → s.In t
  | .none, s, h => by cases h
  | .leaf b h m, s, hs => by
    have hs' : s ∈ if ρ b = 0 then [Nd.leaf b h m] else [] := hs
    split at hs'
    · exact List.mem_singleton.1 hs'
    · cases hs'
  | .fork b g ws, s, hs => by
    have hs' : s ∈ if ρ b = 0 then (fins.flatMap fun i => (ws i).usn ρ) ++ [Nd.fork b g ws] else [] := hs
    split at hs'
    · rcases List.mem_append.1 hs' with h1 | h1
      · obtain ⟨i, _, hi⟩ := List.mem_flatMap.1 h1
        exact .inr ⟨i, usn_in hi⟩
      · exact .inl (List.mem_singleton.1 h1)
    · cases hs'
theorem in_blk : ∀ {t s : Nd}, s.In t → t.Bl s.blk
  | .none, _, h => h.elim
  | .leaf b h m, s, hs => by rw [show s = _ from hs]; rfl
  | .fork b g ws, s, hs => by
    rcases hs with rfl | ⟨i, hi⟩
    · exact .inl rfl
    · exact .inr (.inr ⟨i, in_blk hi⟩)
theorem usn_nun {ρ : Nat → Nat} : ∀ (t : Nd), (t.usn ρ).length ≤ t.nun ρ
  | .none => Nat.le_refl _
  | .leaf b h m => by
    show (if ρ b = 0 then [Nd.leaf b h m] else []).length ≤ if ρ b = 0 then 1 else 0
    split <;> simp
  | .fork b g ws => by
    show (if ρ b = 0 then (fins.flatMap fun i => (ws i).usn ρ) ++ [Nd.fork b g ws] else []).length ≤ (if ρ b = 0 then 1 else 0) + (fins.map fun i => (ws i).nun ρ).sum
    have h1 : ∀ L : List (Fin 16), (L.flatMap fun i => (ws i).usn ρ).length ≤ (L.map fun i => (ws i).nun ρ).sum := by
      intro L
      induction L with
      | nil => simp
      | cons i L ih =>
        have := usn_nun (ρ := ρ) (ws i)
        simp only [List.flatMap_cons, List.length_append, List.map_cons, List.sum_cons]
        omega
    have h2 := h1 fins
    split
    · simp only [List.length_append, List.length_singleton]; omega
    · simp
theorem usn_agree {ρ σ : Nat → Nat} : ∀ {t : Nd}, (∀ k, t.Bl k → σ k = ρ k) → t.usn σ = t.usn ρ
  | .none, _ => rfl
  | .leaf b h m, hb => by
    show (if σ b = 0 then [Nd.leaf b h m] else []) = _
    rw [hb b rfl]; rfl
  | .fork b g ws, hb => by
    show (if σ b = 0 then (fins.flatMap fun i => (ws i).usn σ) ++ [Nd.fork b g ws] else []) = _
    rw [hb b (.inl rfl)]
    have : (fun i => (ws i).usn σ) = fun i => (ws i).usn ρ := funext fun i => usn_agree fun k hk => hb k (.inr (.inr ⟨i, hk⟩))
    rw [this]; rfl
theorem rec_len {ρ : Nat → Nat} {R : List (Int × List Int)} {t : Nd} (h : t.Sv ρ R) : t.rec' ρ ≤ R.length := by
  cases t with
  | none => exact Nat.zero_le _
  | leaf b x m =>
    show ρ b ≤ _
    by_cases e : ρ b = 0
    · omega
    · have := (List.getElem?_eq_some_iff.1 (h e)).1; omega
  | fork b g ws =>
    show ρ b ≤ _
    by_cases e : ρ b = 0
    · omega
    · have := (List.getElem?_eq_some_iff.1 (h.2 e).1).1; omega
/-- Behind the saving of all that had no record. -/
structure SvP (t : Nd) (z z' : Sav) (n : Nat) : Prop where
  sv : t.Sv z'.1 z'.2
  top : t ≠ .none → t.rec' z'.1 ≠ 0
  off : ∀ k, ¬ t.Bl k → z'.1 k = z.1 k
  grow : ∃ T, z'.2 = z.2 ++ T ∧ T.length = n
theorem sav_tree : ∀ (t : Nd) (z : Sav), t.Sv z.1 z.2 → t.Sep → SvP t z (savs z (t.usn z.1)) (t.usn z.1).length
  | .none, z, _, _ => ⟨trivial, fun h => absurd rfl h, fun _ _ => rfl, [], by simp [savs, Nd.usn]⟩
  | .leaf b h m, z, hs, _ => by
    by_cases e : z.1 b = 0
    · have hu : (Nd.leaf b h m).usn z.1 = [.leaf b h m] := if_pos e
      rw [hu]
      refine ⟨fun _ => ?_, fun _ => ?_, fun k hk => upn_other _ _ hk, [_], rfl, rfl⟩
      · show (z.2 ++ [(1, lrec h m)])[upn z.1 b (z.2.length + 1) b - 1]? = _
        rw [upn_same, Nat.add_sub_cancel, List.getElem?_append_right (Nat.le_refl _), Nat.sub_self]; rfl
      · show upn z.1 b (z.2.length + 1) b ≠ 0
        rw [upn_same]; omega
    · have hu : (Nd.leaf b h m).usn z.1 = [] := if_neg e
      rw [hu]
      exact ⟨hs, fun _ => e, fun _ _ => rfl, [], by simp [savs], rfl⟩
  | .fork b g ws, z, hs, hp => by
    by_cases e : z.1 b = 0
    · have hu : (Nd.fork b g ws).usn z.1 = (fins.flatMap fun i => (ws i).usn z.1) ++ [.fork b g ws] := if_pos e
      rw [hu, savs_snoc]
      -- the children, one after another
      have key : ∀ L : List (Fin 16), L.Nodup → ∀ z1 : Sav, (∀ i, (ws i).Sv z1.1 z1.2) → (∀ i ∈ L, ∀ k, (ws i).Bl k → z1.1 k = z.1 k) →
          (∀ i, (ws i).Sv (savs z1 (L.flatMap fun i => (ws i).usn z.1)).1 (savs z1 (L.flatMap fun i => (ws i).usn z.1)).2) ∧ (∀ i ∈ L, ws i ≠ .none → (ws i).rec' (savs z1 (L.flatMap fun i => (ws i).usn z.1)).1 ≠ 0) ∧
          (∀ k, (∀ i ∈ L, ¬ (ws i).Bl k) → (savs z1 (L.flatMap fun i => (ws i).usn z.1)).1 k = z1.1 k) ∧ ∃ T, (savs z1 (L.flatMap fun i => (ws i).usn z.1)).2 = z1.2 ++ T ∧ T.length = (L.flatMap fun i => (ws i).usn z.1).length := by
        intro L
        induction L with
        | nil => intro _ z1 h1 _; exact ⟨h1, (fun i hi => by cases hi), fun _ _ => rfl, [], by simp [savs], rfl⟩
        | cons i L ih =>
          intro hL z1 h1 h2
          obtain ⟨h3, h4⟩ := List.nodup_cons.1 hL
          have hi := sav_tree (ws i) z1 (h1 i) (hp.2.1 i).2.2
          rw [usn_agree (h2 i List.mem_cons_self)] at hi
          obtain ⟨T1, hT1, hl1⟩ := hi.grow
          have hdis : ∀ j, j ≠ i → ∀ k, (ws j).Bl k → ¬ (ws i).Bl k := fun j hj k hk hk' => hp.2.2 j i k hj hk hk'
          have q1 : ∀ j, (ws j).Sv (savs z1 ((ws i).usn z.1)).1 (savs z1 ((ws i).usn z.1)).2 := fun j => by
            by_cases ej : j = i
            · subst ej; exact hi.sv
            · rw [hT1]
              exact sv_grow T1 (sv_agree (fun k hk => hi.off k (hdis j ej k hk)) (h1 j))
          have q2 : ∀ j ∈ L, ∀ k, (ws j).Bl k → (savs z1 ((ws i).usn z.1)).1 k = z.1 k := fun j hj k hk => by
            have ej : j ≠ i := fun e => h3 (e ▸ hj)
            rw [hi.off k (hdis j ej k hk)]
            exact h2 j (List.mem_cons_of_mem _ hj) k hk
          obtain ⟨g1, g2, g3, T2, hT2, hl2⟩ := ih h4 (savs z1 ((ws i).usn z.1)) q1 q2
          rw [List.flatMap_cons, savs_app]
          refine ⟨g1, fun j hj hne => ?_, fun k hk => ?_, T1 ++ T2, by rw [hT2, hT1, List.append_assoc], by rw [List.length_append, List.length_append, hl1, hl2]⟩
          · rcases List.mem_cons.1 hj with rfl | hj
            · rw [rec_agree (fun k hk => g3 k (fun l hl hk' => hdis l (fun e => h3 (e ▸ hl)) k hk' hk))]
              exact hi.top hne
            · exact g2 j hj hne
          · rw [g3 k (fun l hl => hk l (List.mem_cons_of_mem _ hl)), hi.off k (hk i List.mem_cons_self)]
      obtain ⟨g1, g2, g3, T, hT, hl⟩ := key fins fins_nodup z hs.1 (fun _ _ _ _ => rfl)
      generalize savs z (fins.flatMap fun i => (ws i).usn z.1) = y at *
      have hnb : ∀ i k, (ws i).Bl k → upn y.1 b (y.2.length + 1) k = y.1 k := fun i k hk => upn_other _ _ (fun e2 => (hp.2.1 i).1 (e2 ▸ hk))
      have hr : ∀ i, (ws i).rec' (upn y.1 b (y.2.length + 1)) = (ws i).rec' y.1 := fun i => rec_agree (hnb i)
      have hf : frec (upn y.1 b (y.2.length + 1)) ws = frec y.1 ws := by
        unfold frec
        exact congrArg (fun f => fins.flatMap f) (funext fun i => by rw [hr i])
      refine ⟨⟨fun i => sv_grow _ (sv_agree (hnb i) (g1 i)), fun _ => ?_⟩, fun _ => ?_, fun k hk => ?_, T ++ [(2, frec y.1 ws)], ?_, ?_⟩
      · show (y.2 ++ [(2, frec y.1 ws)])[upn y.1 b (y.2.length + 1) b - 1]? = some (2, frec (upn y.1 b (y.2.length + 1)) ws) ∧ ∀ i, (ws i).rec' (upn y.1 b (y.2.length + 1)) < upn y.1 b (y.2.length + 1) b ∧ _
        rw [upn_same, Nat.add_sub_cancel, List.getElem?_append_right (Nat.le_refl _), Nat.sub_self, hf]
        refine ⟨rfl, fun i => ?_⟩
        rw [hr i]
        exact ⟨Nat.lt_succ_of_le (rec_len (g1 i)), fun hne => by rw [show (ws i).rec' (sav1 y (.fork b g ws)).1 = (ws i).rec' y.1 from hr i]; exact g2 i (fins_mem i) hne⟩
      · show upn y.1 b (y.2.length + 1) b ≠ 0
        rw [upn_same]; omega
      · show upn y.1 b (y.2.length + 1) k = z.1 k
        rw [upn_other _ _ (fun e2 => hk (.inl e2)), g3 k (fun i _ hi => hk (.inr (.inr ⟨i, hi⟩)))]
      · show y.2 ++ [(2, frec y.1 ws)] = z.2 ++ (T ++ [(2, frec y.1 ws)])
        rw [hT, List.append_assoc]
      · rw [List.length_append, List.length_append, hl]; rfl
    · have hu : (Nd.fork b g ws).usn z.1 = [] := if_neg e
      rw [hu]
      exact ⟨hs, fun _ => e, fun _ _ => rfl, [], by simp [savs], rfl⟩
/-- What has a record is saved whole. -/
theorem saved_nun {ρ : Nat → Nat} {R : List (Int × List Int)} : ∀ {t : Nd}, t.Sv ρ R → (t ≠ .none → t.rec' ρ ≠ 0) → t.nun ρ = 0
  | .none, _, _ => rfl
  | .leaf b h m, _, ht => if_neg (ht (fun e => by cases e))
  | .fork b g ws, hs, ht => by
    have h0 : ρ b ≠ 0 := ht (fun e => by cases e)
    show (if ρ b = 0 then 1 else 0) + (fins.map fun i => (ws i).nun ρ).sum = 0
    rw [if_neg h0]
    have : (fun i => (ws i).nun ρ) = fun _ => 0 := funext fun i => saved_nun (hs.1 i) ((hs.2 h0).2 i).2
    rw [this]
    decide
theorem saved_usn {ρ : Nat → Nat} {t : Nd} (ht : t ≠ .none → t.rec' ρ ≠ 0) : t.usn ρ = [] := by
  cases t with
  | none => rfl
  | leaf b h m => exact if_neg (ht (fun e => by cases e))
  | fork b g ws => exact if_neg (ht (fun e => by cases e))
end Go.Proofs.YtbpccbhlggcmfaaGreatDoor
