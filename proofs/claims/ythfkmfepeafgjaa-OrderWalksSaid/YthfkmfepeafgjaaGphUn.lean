/- What the walks of stage 11 share. Condition: errors.errorType holds what its text lays. -/
import Derived.Test.YthfkmfepeafgjaaHndU
import Derived.Test.YthfkmfepeafgjaaGphIn
import Derived.Test.YthfkmfepeafgjaaGphJ
namespace Go.Proofs.Ythfkmfepeafgjaa
open Go.RowKit Go.Extern.Stop Go.Stop Go.Extern
open Go.Maps

/-- The hashes that Put makes of the commits'. -/
def hputs (l : List Key) (cs : List Cm) : List Key := cs.foldl (fun l c => rput l c.1) l
theorem hputs_len (cs : List Cm) : ∀ l, (hputs l cs).length ≤ l.length + cs.length := by
  induction cs with
  | nil => intro l; exact Nat.le_refl _
  | cons c cs ih =>
    intro l
    show (hputs (rput l c.1) cs).length ≤ _
    have := ih (rput l c.1)
    have := rput_length c.1 l
    rw [List.length_cons]; omega
theorem hputs_h32 {cs : List Cm} (hc : COk cs) : ∀ {l}, H32 l → H32 (hputs l cs) := by
  induction cs with
  | nil => intro l h; exact h
  | cons c cs ih =>
    intro l h
    exact ih (fun d hd => hc d (List.mem_cons_of_mem _ hd)) (fun x hx => by
      rcases (rput_mem x c.1 l).1 hx with e | e
      · rw [e]; exact (hc c List.mem_cons_self).1
      · exact h x e)
theorem hputs_snoc (l : List Key) (cs : List Cm) (c : Cm) : hputs l (cs ++ [c]) = rput (hputs l cs) c.1 := by simp [hputs, List.foldl_append]
theorem RqSeen.get {w W : World} {p : Option Addr} {E : List Rq} (h : RqSeen w p E) (k : Below w.heap.size w W) {i : Nat} (hi : i < E.length) : ∃ (b o : Nat) (x : Rq), p = some ⟨b, o, none⟩ ∧ x.In W ∧ W.cell? ⟨b, o + i * 4, none⟩ = some x.vL ∧ W.cell? ⟨b, o + i * 4 + 1, none⟩ = some x.vH ∧ W.cell? ⟨b, o + i * 4 + 2, none⟩ = some (.int .i64 x.grp) ∧ W.cell? ⟨b, o + i * 4 + 3, none⟩ = some (.int .i64 x.how) := by
  obtain ⟨b, o, h1, h2, h3⟩ := h i _ (List.getElem?_eq_getElem hi)
  have h4 := rng_kb h2 k
  exact ⟨b, o, _, h1, ⟨h3.1.kb k, h3.2.kb' k⟩, by simpa using h4 0 _ rfl, h4 1 _ rfl, h4 2 _ rfl, h4 3 _ rfl⟩
theorem rng_pre {w : World} {b o : Nat} {xs ys : List Value} (h : w.rangeAt b o (xs ++ ys)) : w.rangeAt b o xs := fun j v hj => h j v (by rw [List.getElem?_append_left (List.getElem?_eq_some_iff.1 hj).1]; exact hj)
theorem adj_is {G : Gr} {h : Key} {ps : List Key} (e : aget h G = some ps) : adj G h = ps := by unfold adj; rw [e]; rfl
/-- No commit is an ancestor of one of its parents. -/
theorem not_anc {G : Gr} (W : Wf G) {h x : Key} {ps : List Key} (e : aget h G = some ps) (hx : x ∈ ps) : h ∉ ancs G [x] := fun hm => by
  obtain ⟨a, ha, _, hu⟩ := (ancs_mem W.clo).1 hm
  rw [List.mem_singleton.1 ha] at hu
  exact W.acy h x (by rw [adj_is e]; exact hx) hu
theorem par_has {G : Gr} (W : Wf G) {h x : Key} {ps : List Key} (e : aget h G = some ps) (hx : x ∈ ps) : (aget x G).isSome = true := W.clo h x (by rw [adj_is e]; exact hx)
theorem own_mild {w w' : World} {B : Nat} {e : TypeId} {s : Nat} {v : Value} {n : Nat} {xs : List Value} (h : w.ownsRow B e s v n xs) (m : Mild w w') : w'.ownsRow B e s v n xs := by
  refine ⟨h.1, ?_⟩
  rcases h.2 with h1 | ⟨g, cap, cur, h1, h2, hg, h3⟩
  · exact .inl h1
  · exact .inr ⟨g, cap, cur, h1, h2, m.cells hg, h3⟩
theorem Ks.bare {w W : World} {H : List (Nat × Key)} {g bm : Nat} {X : Lx} {L : List (Value × Rf)} (h : Ks w W H g bm X L) : Ks w W H g bm X [] := ⟨h.bel, h.own, h.ga, h.lo, fun p hp => by cases hp⟩
/-- A request's own variable, and its commits. -/
structure Rv (W : World) (rb : Nat) (pc : Option Addr) (m cc : Nat) (vh : Value) (gg : Int) (cs : List Cm) : Prop where
  cell : W.heap[rb]? = some (.cells #[.slice pc m cc, vh, .int .i64 gg] 64 (0, 0))
  seen : CSeen W (.slice pc m cc) cs
  ok : COk cs
  len : m = cs.length
  few : cs.length ≤ 100
  par : ∀ c ∈ cs, c.2.length ≤ 10
theorem Rv.mild {W W' : World} {rb : Nat} {pc : Option Addr} {m cc : Nat} {vh : Value} {gg : Int} {cs : List Cm} (h : Rv W rb pc m cc vh gg cs) (k : Mild W W') : Rv W' rb pc m cc vh gg cs := ⟨k.cells h.cell, h.seen.mild k, h.ok, h.len, h.few, h.par⟩
theorem Rv.kb {W W' : World} {rb : Nat} {pc : Option Addr} {m cc : Nat} {vh : Value} {gg : Int} {cs : List Cm} (h : Rv W rb pc m cc vh gg cs) (k : Below W.heap.size W W') : Rv W' rb pc m cc vh gg cs := h.mild (mild_below k)
theorem Rv.c {W : World} {rb : Nat} {pc : Option Addr} {m cc : Nat} {vh : Value} {gg : Int} {cs : List Cm} (h : Rv W rb pc m cc vh gg cs) : W.cell? ⟨rb, 0, none⟩ = some (.slice pc m cc) := by rw [cell_of_row W rb _ _ _ _ h.cell]; rfl
/-- A row of hashes of one's own, by its shape. -/
theorem own_sh {w : World} {B : Nat} {v : Value} {E : List Key} (h : HOwn w B v E) : ∃ p n cap, v = .slice p n cap ∧ n = E.length := by
  obtain ⟨p, cap, e⟩ := own_shape h
  exact ⟨p, _, cap, e, rfl⟩
theorem keys_h32 {X : Lx} (h : Wf (gr X)) : H32 ((gr X).map (·.1)) := fun x hx => by
  obtain ⟨c, hc, rfl⟩ := List.mem_map.1 hx
  exact (h.h32 c hc).1
theorem keys_len {X : Lx} (h : Wf (gr X)) : ((gr X).map (·.1)).length ≤ 1000 := by rw [List.length_map]; exact h.few
end Go.Proofs.Ythfkmfepeafgjaa
