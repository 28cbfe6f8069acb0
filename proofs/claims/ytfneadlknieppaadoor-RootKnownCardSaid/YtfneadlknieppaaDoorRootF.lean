/- What a raw root makes; how what is loaded stands to what was saved: plain mathematics. No condition. -/
import Derived.Test.YtfneadlknieppaaDoorRootO
import Derived.Test.YtfneadlknieppaaDoorRootE
namespace Go.Proofs.YtfneadlknieppaaDoor
open Go.RowKit
open Go.Maps

/-- What a decoder hands back, whatever it read. -/
def DecIs (body : List Int) (r : Rt) : Prop := ∀ r0, okR r0 = true → body = bodyR r0 → r = r0
/-- What a reader reads next: the number, what is left, whether it lacks. -/
def nxV (l : List Int) (lk : Bool) : Int × List Int × Bool := match pV l with | some (x, l') => (x, l', lk) | none => (0, [], true)
theorem RdAt.next {body : List Int} {g i n : Int} {ls l : List Int} {lk : Bool} (h : RdAt body g i n ls l lk) (hn : 0 < n) : RdAt body g i (n - 1) (ls ++ [(nxV l lk).1]) (nxV l lk).2.1 (nxV l lk).2.2 := by
  cases lk with
  | true => exact RdAt.none (fun r0 h0 e => by have := (h.at_ r0 h0 e).1; cases this) _ _ _ _ _ _
  | false =>
    unfold nxV
    cases hx : pV l with
    | none => exact h.lack hn hx _ _ _ _ _ _
    | some p => obtain ⟨x, l'⟩ := p; exact h.step hn hx
/-- The three numbers ahead of the lengths. -/
theorem RdAt.first (body : List Int) : RdAt body (nxV body false).1 (nxV (nxV body false).2.1 (nxV body false).2.2).1 (nxV (nxV (nxV body false).2.1 (nxV body false).2.2).2.1 (nxV (nxV body false).2.1 (nxV body false).2.2).2.2).1 []
    (nxV (nxV (nxV body false).2.1 (nxV body false).2.2).2.1 (nxV (nxV body false).2.1 (nxV body false).2.2).2.2).2.1 (nxV (nxV (nxV body false).2.1 (nxV body false).2.2).2.1 (nxV (nxV body false).2.1 (nxV body false).2.2).2.2).2.2 := by
  refine ⟨fun r0 h e => ?_⟩
  obtain ⟨a1, a2, a3, a4⟩ := okR_iff.1 h
  have e1 : nxV body false = (r0.gen, vr r0.idx ++ (vr r0.logs.length ++ vrs r0.logs), false) := by
    unfold nxV; rw [e, bodyR, pV_vr a1]
  rw [e1]
  have e2 : nxV (vr r0.idx ++ (vr r0.logs.length ++ vrs r0.logs)) false = (r0.idx, vr r0.logs.length ++ vrs r0.logs, false) := by
    unfold nxV; rw [pV_vr a2]
  simp only [e2]
  have e3 : nxV (vr r0.logs.length ++ vrs r0.logs) false = ((r0.logs.length : Int), vrs r0.logs, false) := by
    unfold nxV; rw [pV_vr (fin_len a3)]
  simp only [e3]
  simp
theorem RdAt.fin8 {body : List Int} {g i n : Int} {ls l : List Int} {lk : Bool} (h : RdAt body g i n ls l lk) (hend : n ≤ 0 ∨ 8 ≤ ls.length) : DecIs body ⟨g, ls, i⟩ := fun r0 h0 e => by
  obtain ⟨b1, b2, b3, b4, b5, b6⟩ := h.at_ r0 h0 e
  obtain ⟨a1, a2, a3, a4⟩ := okR_iff.1 h0
  have hl : ls.length ≤ r0.logs.length := by
    have := congrArg List.length b4
    rw [List.length_take] at this
    omega
  have hle : ls.length = r0.logs.length := by omega
  rw [hle, List.take_length] at b4
  cases r0
  simp only [Rt.mk.injEq]
  exact ⟨b2, b4, b3⟩
/-- What Read answers, once the body is decoded. -/
theorem rdis_bad {b : List Int} (h : (nxt b).2.2.2 ≠ 0) : RdIs b (nxt b).2.2.2 Rt.zero := by
  unfold RdIs; rw [if_pos h]; exact ⟨rfl, rfl⟩
theorem rdis_good {b : List Int} {r : Rt} (h : (nxt b).2.2.2 = 0) (ho : okR r = true) (e : encR r = b) : RdIs b 0 r := by
  unfold RdIs; rw [if_neg (by simp [h])]; exact .inl ⟨rfl, ho, e.symm⟩
theorem rdis_form {b : List Int} {r : Rt} (h : (nxt b).2.2.2 = 0) (hd : DecIs (nxt b).2.1 r) (hn : ¬ (okR r = true ∧ encR r = b)) : RdIs b 2 Rt.zero := by
  unfold RdIs
  rw [if_neg (by simp [h])]
  refine .inr ⟨rfl, rfl, fun r0 h0 e => hn ?_⟩
  have := hd r0 h0 (by rw [e, nxt_enc (okR_iff.1 h0).2.2.1])
  subst this
  exact ⟨h0, e.symm⟩
/-- For a decoder that says whether it lacked. -/
theorem rdis_lack {b : List Int} {r : Rt} {lk : Bool} (h : (nxt b).2.2.2 = 0) (hd : ∀ r0, okR r0 = true → (nxt b).2.1 = bodyR r0 → lk = false ∧ r = r0) (hn : ¬ (okR r = true ∧ lk = false ∧ encR r = b)) : RdIs b 2 Rt.zero := by
  unfold RdIs
  rw [if_neg (by simp [h])]
  refine .inr ⟨rfl, rfl, fun r0 h0 e => hn ?_⟩
  obtain ⟨h1, h2⟩ := hd r0 h0 (by rw [e, nxt_enc (okR_iff.1 h0).2.2.1])
  subst h2
  exact ⟨h0, h1, e.symm⟩
/-- What Load answers. -/
def LdIs (s : St) (c : Int) (r : Rt) : Prop := if ex s rtN = true then RdIs (rdS s rtN) c r else c = 11 ∧ r = Rt.zero
theorem LdIs.unique {s : St} {c c' : Int} {r r' : Rt} (h : LdIs s c r) (h' : LdIs s c' r') : c = c' ∧ r = r' := by
  unfold LdIs at h h'
  split at h
  · rename_i hx
    rw [if_pos hx] at h'
    exact h.unique h'
  · rename_i hx
    rw [if_neg hx] at h'
    exact ⟨h.1.trans h'.1.symm, h.2.trans h'.2.symm⟩
theorem Hd.ldnone {s : St} (h : Hd s none) {c : Int} {r : Rt} (hl : LdIs s c r) : c = 11 ∧ r = Rt.zero := by
  unfold LdIs at hl
  rwa [if_neg (by rw [h.load.1]; decide)] at hl
theorem Hd.ldsome {s : St} {r0 : Rt} (h0 : okR r0 = true) (h : Hd s (some (encR r0))) {c : Int} {r : Rt} (hl : LdIs s c r) : c = 0 ∧ r = r0 := by
  unfold LdIs at hl
  rw [if_pos (by rw [h.load.1]; rfl), h.load.2] at hl
  exact hl.unique (rdis_enc h0)
/-- A raw root. -/
structure Rw where
  gen : Int
  idx : Int
  how : Int
  logs : List Int
def oneB (x : Rw) : Rt := ⟨x.gen % 100000, (x.logs.take 9).map (· % 1073741824), x.idx % 1000⟩
def oneR (x : Rw) : Rt := if x.how % 12 = 0 then { oneB x with gen := x.gen } else if x.how % 12 = 1 then { oneB x with idx := x.idx } else if x.how % 12 = 2 then { oneB x with logs := (oneB x).logs ++ [x.how] } else oneB x
theorem oneR_len (x : Rw) : (oneR x).logs.length ≤ 10 := by
  have h : (oneB x).logs.length ≤ 9 := by show (((x.logs.take 9).map _).length ≤ 9); rw [List.length_map, List.length_take]; omega
  unfold oneR
  repeat' split
  · exact Nat.le_succ_of_le h
  · exact Nat.le_succ_of_le h
  · show ((oneB x).logs ++ [x.how]).length ≤ 10; rw [List.length_append, List.length_singleton]; omega
  · exact Nat.le_succ_of_le h
/-- What the statement holds to be the root that is there. -/
def NowIs (o : Option (List Int)) (r : Rt) : Prop := (o = none ∧ r.gen = -1) ∨ (okR r = true ∧ o = some (encR r))
theorem layR_yes {r : Rt} (h : okR r = true) : layR r = (0, encR r) := if_pos h
theorem layR_no {r : Rt} (h : ¬ okR r = true) : layR r = (1, []) := if_neg h
theorem encR_ok (r : Rt) : Okb (encR r) := frm_ok 1 (bodyR_ok r)
end Go.Proofs.YtfneadlknieppaaDoor
