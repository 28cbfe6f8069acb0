/- Roots as bytes: the encoding, and that it tells a root from each other. No condition. -/
import Derived.Test.YtfneadlknieppaaDoorLogD
import Derived.Test.YtfneadlknieppaaDoorOctEnc
import Derived.Test.YtfneadlknieppaaDoorOctMath
namespace Go.Proofs.YtfneadlknieppaaDoor
open Go.RowKit

structure Rt where
  gen : Int
  logs : List Int
  idx : Int
def Rt.zero : Rt := ⟨0, [], 0⟩
def fin (n : Int) : Bool := decide (0 ≤ n) && decide (n ≤ 1099511627776)
theorem fin_iff {n : Int} : fin n = true ↔ 0 ≤ n ∧ n ≤ 1099511627776 := by simp [fin]
/-- Which roots may be. -/
def okR (r : Rt) : Bool := fin r.gen && fin r.idx && decide (r.logs.length ≤ 8) && r.logs.all fin
theorem okR_iff {r : Rt} : okR r = true ↔ fin r.gen = true ∧ fin r.idx = true ∧ r.logs.length ≤ 8 ∧ ∀ x ∈ r.logs, fin x = true := by
  simp [okR, and_assoc]
/-- A number as Var writes it. -/
def vr (n : Int) : List Int := leb 9 (IntKind.u64.wrap n)
def vrs : List Int → List Int
  | [] => []
  | x :: l => vr x ++ vrs l
theorem vrs_app : ∀ a b : List Int, vrs (a ++ b) = vrs a ++ vrs b
  | [], _ => rfl
  | x :: a, b => by simp [vrs, vrs_app a b]
def bodyR (r : Rt) : List Int := vr r.gen ++ (vr r.idx ++ (vr r.logs.length ++ vrs r.logs))
def encR (r : Rt) : List Int := frm 1 (bodyR r)
/-- What Lay answers. -/
def layR (r : Rt) : Int × List Int := if okR r = true then (0, encR r) else (1, [])
theorem vr_len (n : Int) : (vr n).length ≤ 10 := leb_length 9 _
theorem vr_ok (n : Int) : Okb (vr n) := leb_ok 9 _ (u64_bd n).1 (u64_pow n)
theorem vrs_len : ∀ l : List Int, (vrs l).length ≤ 10 * l.length
  | [] => Nat.le_refl _
  | x :: l => by
    have h1 := vr_len x
    have h2 := vrs_len l
    rw [vrs, List.length_append, List.length_cons]
    omega
theorem vrs_ok : ∀ l : List Int, Okb (vrs l)
  | [] => Okb.nil
  | x :: l => (vr_ok x).app (vrs_ok l)
theorem bodyR_ok (r : Rt) : Okb (bodyR r) := (vr_ok _).app ((vr_ok _).app ((vr_ok _).app (vrs_ok _)))
theorem bodyR_len {r : Rt} (h : r.logs.length ≤ 8) : (bodyR r).length ≤ 110 := by
  have h1 := vr_len r.gen
  have h2 := vr_len r.idx
  have h3 := vr_len r.logs.length
  have h4 := vrs_len r.logs
  unfold bodyR
  simp only [List.length_append]
  omega
theorem encR_len {r : Rt} (h : okR r = true) : (encR r).length ≤ 200 := by
  have := bodyR_len (okR_iff.1 h).2.2.1
  unfold encR
  rw [frm_len]
  omega
theorem rok_body {r : Rt} (h : r.logs.length ≤ 8) : Rok ((1 : Int), bodyR r) := ⟨(by show (1 : Int) ≤ 1; decide), (by show (1 : Int) ≤ 255; decide), by show (bodyR r).length ≤ _; have := bodyR_len h; omega, bodyR_ok r⟩
theorem nxt_enc {r : Rt} (h : r.logs.length ≤ 8) : nxt (encR r) = (1, bodyR r, 9 + ((bodyR r).length : Int), 0) := by
  have := nxt_frm [] (rok_body h)
  rw [List.append_nil] at this
  exact this
/-- What Var reads. -/
def pV (l : List Int) : Option (Int × List Int) := (rv 10 0 0 l).map fun p => (wrap64 p.1, p.2)
theorem pV_vr {n : Int} (h : fin n = true) (l : List Int) : pV (vr n ++ l) = some (n, l) := by
  have h1 := fin_iff.1 h
  unfold pV vr
  rw [backVar, Option.map_some, wrap_back n (by omega)]
theorem fin_len {r : Rt} (h : r.logs.length ≤ 8) : fin (r.logs.length : Int) = true := fin_iff.2 (by omega)
theorem vrs_inj : ∀ {l l' : List Int}, l.length = l'.length → (∀ x ∈ l, fin x = true) → (∀ x ∈ l', fin x = true) → vrs l = vrs l' → l = l'
  | [], [], _, _, _, _ => rfl
  | [], _ :: _, h, _, _, _ => by simp at h
  | _ :: _, [], h, _, _, _ => by simp at h
  | x :: l, y :: l', h, h1, h2, e => by
    rw [vrs, vrs] at e
    have e1 := congrArg pV e
    rw [pV_vr (h1 x List.mem_cons_self), pV_vr (h2 y List.mem_cons_self)] at e1
    simp only [Option.some.injEq, Prod.mk.injEq] at e1
    obtain ⟨rfl, e2⟩ := e1
    rw [vrs_inj (by simpa using h) (fun z hz => h1 z (List.mem_cons_of_mem _ hz)) (fun z hz => h2 z (List.mem_cons_of_mem _ hz)) e2]
theorem bodyR_inj {r r' : Rt} (h : okR r = true) (h' : okR r' = true) (e : bodyR r = bodyR r') : r = r' := by
  obtain ⟨a1, a2, a3, a4⟩ := okR_iff.1 h
  obtain ⟨b1, b2, b3, b4⟩ := okR_iff.1 h'
  unfold bodyR at e
  have e1 := congrArg pV e
  rw [pV_vr a1, pV_vr b1] at e1
  simp only [Option.some.injEq, Prod.mk.injEq] at e1
  have e2 := congrArg pV e1.2
  rw [pV_vr a2, pV_vr b2] at e2
  simp only [Option.some.injEq, Prod.mk.injEq] at e2
  have e3 := congrArg pV e2.2
  rw [pV_vr (fin_len a3), pV_vr (fin_len b3)] at e3
  simp only [Option.some.injEq, Prod.mk.injEq] at e3
  have e4 := vrs_inj (by have := e3.1; omega) a4 b4 e3.2
  cases r
  cases r'
  simp only [Rt.mk.injEq]
  exact ⟨e1.1, e4, e2.1⟩
theorem encR_inj {r r' : Rt} (h : okR r = true) (h' : okR r' = true) (e : encR r = encR r') : r = r' := by
  have h1 := nxt_enc (okR_iff.1 h).2.2.1
  rw [e, nxt_enc (okR_iff.1 h').2.2.1] at h1
  simp only [Prod.mk.injEq] at h1
  exact bodyR_inj h h' h1.2.1.symm
/-- What Read answers: c, and the root. -/
def RdIs (b : List Int) (c : Int) (r : Rt) : Prop :=
  if (nxt b).2.2.2 ≠ 0 then c = (nxt b).2.2.2 ∧ r = Rt.zero else (c = 0 ∧ okR r = true ∧ b = encR r) ∨ (c = 2 ∧ r = Rt.zero ∧ ∀ r0, okR r0 = true → b ≠ encR r0)
theorem RdIs.unique {b : List Int} {c c' : Int} {r r' : Rt} (h : RdIs b c r) (h' : RdIs b c' r') : c = c' ∧ r = r' := by
  unfold RdIs at h h'
  split at h
  · rename_i hn
    rw [if_pos hn] at h'
    exact ⟨h.1.trans h'.1.symm, h.2.trans h'.2.symm⟩
  · rename_i hn
    rw [if_neg hn] at h'
    rcases h with ⟨rfl, h2, h3⟩ | ⟨rfl, rfl, h3⟩
    · rcases h' with ⟨rfl, k2, k3⟩ | ⟨_, _, k3⟩
      · exact ⟨rfl, encR_inj h2 k2 (h3.symm.trans k3)⟩
      · exact absurd h3 (k3 _ h2)
    · rcases h' with ⟨_, k2, k3⟩ | ⟨rfl, rfl, _⟩
      · exact absurd k3 (h3 _ k2)
      · exact ⟨rfl, rfl⟩
theorem rdis_enc {r : Rt} (h : okR r = true) : RdIs (encR r) 0 r := by
  unfold RdIs
  rw [nxt_enc (okR_iff.1 h).2.2.1, if_neg (by simp)]
  exact .inl ⟨rfl, h, rfl⟩
/-- How a decoder that read g, i, n and then numbers stands to the bytes of a root: j numbers are read. -/
structure RdAt (body : List Int) (g i n : Int) (ls l : List Int) (lk : Bool) : Prop where
  at_ : ∀ r0, okR r0 = true → body = bodyR r0 → lk = false ∧ g = r0.gen ∧ i = r0.idx ∧ ls = r0.logs.take ls.length ∧ n = (r0.logs.length : Int) - ls.length ∧ l = vrs (r0.logs.drop ls.length)
theorem RdAt.start {body : List Int} {g i n : Int} {l1 l2 l3 : List Int} (h1 : pV body = some (g, l1)) (h2 : pV l1 = some (i, l2)) (h3 : pV l2 = some (n, l3)) : RdAt body g i n [] l3 false := ⟨fun r0 h e => by
  obtain ⟨a1, a2, a3, a4⟩ := okR_iff.1 h
  rw [e, bodyR, pV_vr a1] at h1
  simp only [Option.some.injEq, Prod.mk.injEq] at h1
  rw [← h1.2, pV_vr a2] at h2
  simp only [Option.some.injEq, Prod.mk.injEq] at h2
  rw [← h2.2, pV_vr (fin_len a3)] at h3
  simp only [Option.some.injEq, Prod.mk.injEq] at h3
  exact ⟨rfl, h1.1.symm, h2.1.symm, rfl, by have := h3.1; simp; omega, by rw [← h3.2]; rfl⟩⟩
theorem RdAt.step {body : List Int} {g i n x : Int} {ls l l' : List Int} (h : RdAt body g i n ls l false) (hn : 0 < n) (hx : pV l = some (x, l')) : RdAt body g i (n - 1) (ls ++ [x]) l' false := ⟨fun r0 h0 e => by
  obtain ⟨_, b2, b3, b4, b5, b6⟩ := h.at_ r0 h0 e
  obtain ⟨a1, a2, a3, a4⟩ := okR_iff.1 h0
  have hlt : ls.length < r0.logs.length := by omega
  rw [b6, List.drop_eq_getElem_cons hlt, vrs, pV_vr (a4 _ (List.getElem_mem hlt))] at hx
  simp only [Option.some.injEq, Prod.mk.injEq] at hx
  refine ⟨rfl, b2, b3, ?_, by simp; omega, by simp only [List.length_append, List.length_cons, List.length_nil, Nat.zero_add]; exact hx.2.symm⟩
  simp only [List.length_append, List.length_cons, List.length_nil, Nat.zero_add]
  rw [List.take_succ_eq_append_getElem hlt, ← b4, hx.1]⟩
theorem RdAt.lack {body : List Int} {g i n : Int} {ls l : List Int} (h : RdAt body g i n ls l false) (hn : 0 < n) (hx : pV l = none) (g' i' n' : Int) (ls' l' : List Int) (lk : Bool) : RdAt body g' i' n' ls' l' lk := ⟨fun r0 h0 e => by
  obtain ⟨_, b2, b3, b4, b5, b6⟩ := h.at_ r0 h0 e
  obtain ⟨a1, a2, a3, a4⟩ := okR_iff.1 h0
  have hlt : ls.length < r0.logs.length := by omega
  rw [b6, List.drop_eq_getElem_cons hlt, vrs, pV_vr (a4 _ (List.getElem_mem hlt))] at hx
  cases hx⟩
theorem RdAt.none {body : List Int} (h : ∀ r0, okR r0 = true → body ≠ bodyR r0) (g i n : Int) (ls l : List Int) (lk : Bool) : RdAt body g i n ls l lk := ⟨fun r0 h0 e => absurd e (h r0 h0)⟩
/-- At the end: what was read is the root, if the bytes are one. -/
theorem RdAt.done {body : List Int} {g i n : Int} {ls l : List Int} {lk : Bool} (h : RdAt body g i n ls l lk) (hend : lk = true ∨ n ≤ 0 ∨ 8 < ls.length) {r0 : Rt} (h0 : okR r0 = true) (e : body = bodyR r0) : lk = false ∧ (⟨g, ls, i⟩ : Rt) = r0 := by
  obtain ⟨b1, b2, b3, b4, b5, b6⟩ := h.at_ r0 h0 e
  obtain ⟨a1, a2, a3, a4⟩ := okR_iff.1 h0
  have hl : ls.length ≤ r0.logs.length := by
    have := congrArg List.length b4
    rw [List.length_take] at this
    omega
  have hle : ls.length = r0.logs.length := by
    rcases hend with h | h | h
    · rw [b1] at h; cases h
    · omega
    · omega
  refine ⟨b1, ?_⟩
  rw [hle, List.take_length] at b4
  cases r0
  simp only [Rt.mk.injEq]
  exact ⟨b2, b4, b3⟩
end Go.Proofs.YtfneadlknieppaaDoor
