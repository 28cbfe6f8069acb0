/- slices.ContainsFunc at a set's has; Remove. Conditions: hashes of 32 bytes; no more than a million hashes asked. · Remove. Conditions: hashes of 32 bytes; no more than a million hashes asked; no more than 1000 commits, whose parents are there. -/
import Derived.Test.YthfkmfepeafgjaaGphW
namespace Go.Proofs.Ythfkmfepeafgjaa
open Go.RowKit
open Go.Maps

/-- Is one of some hashes among others? -/
def anyIn (E R : List Key) : Bool := E.any fun p => decide (p ∈ R)
/-- The first commit that stays and has a parent that goes. -/
def rm1 (E : List Key) : Gr → Rf
  | [] => none
  | c :: G => if c.1 ∈ E then rm1 E G else if anyIn c.2 E then some (10, some c.1) else rm1 E G
/-- The commits that stay. -/
def rmv (E : List Key) (G : Gr) : Gr := G.filter fun c => !decide (c.1 ∈ E)
theorem anyIn_congr {E R S : List Key} (h : ∀ p ∈ E, p ∈ R ↔ p ∈ S) : anyIn E R = anyIn E S := by
  unfold anyIn
  induction E with
  | nil => rfl
  | cons p E ih =>
    rw [List.any_cons, List.any_cons, ih fun q hq => h q (List.mem_cons_of_mem _ hq)]
    congr 1
    exact decide_eq_decide.2 (h p List.mem_cons_self)
theorem rm1_congr {R S : List Key} : ∀ {G : Gr}, (∀ c ∈ G, (c.1 ∈ R ↔ c.1 ∈ S) ∧ ∀ p ∈ c.2, p ∈ R ↔ p ∈ S) → rm1 R G = rm1 S G
  | [], _ => rfl
  | c :: G, h => by
    obtain ⟨h1, h2⟩ := h c List.mem_cons_self
    rw [rm1, rm1, rm1_congr fun d hd => h d (List.mem_cons_of_mem _ hd), anyIn_congr h2]
    by_cases e : c.1 ∈ R
    · rw [if_pos e, if_pos (h1.1 e)]
    · rw [if_neg e, if_neg fun k => e (h1.2 k)]
theorem rmv_congr {R S : List Key} {G : Gr} (h : ∀ c ∈ G, c.1 ∈ R ↔ c.1 ∈ S) : rmv R G = rmv S G := by
  unfold rmv
  refine List.filter_congr fun c hc => ?_
  rw [decide_eq_decide.2 (h c hc)]
theorem GA.drop {w w' : World} {g bm : Nat} {X : Lx} {k : Key} (h : GA w g bm X) (mp' : MpH w' bm (adel k (kvs X))) (ho : Only (fun j => j = bm) w w') : GA w' g bm (adel k X) := by
  have hm := mild_map h.at_.mp ho
  refine ⟨hm.cells h.cell, by rw [show kvs (adel k X) = adel k (kvs X) from amap_del _ _ _]; exact mp', fun x hx => ?_⟩
  have := h.at_.seen x ((adel_mem _ _ _).1 hx).1
  exact ⟨this.1.mild hm, this.2⟩
theorem gr_del (k : Key) (X : Lx) : gr (adel k X) = adel k (gr X) := amap_del _ _ _
theorem rmv_snoc (ss : List Key) (k : Key) (G : Gr) : rmv (ss ++ [k]) G = adel k (rmv ss G) := by
  unfold rmv adel
  rw [List.filter_filter]
  refine List.filter_congr fun c _ => ?_
  by_cases h1 : c.1 ∈ ss <;> by_cases h2 : c.1 = k <;> simp [h1, h2]
theorem rmv_nil (G : Gr) : rmv [] G = G := by unfold rmv; simp
section
variable {ops : Array Oper} {o : Oper} {a : Act} {w : World} {K : Act → World → Prop} {Q : Exit → Act → World → Prop} {X : Prop}
theorem step_del {t k : TypeId} (hgd : o.guard = none) (m x : Operand) (ho : o.op = .call { callee := .builtin .delete, args := #[m, x], argTypes := #[t, k] }) {mv xv : Value} (hm : a.eval m = mv) (hx : a.eval x = xv) {w' : World} (hr : (Builtin.delete_ #[t, k] o.type #[mv, xv]).run Try.prog w = .ok (.tuple #[]) w') (h : K (a.put o.dst (.tuple #[])) w') :
    if Region.wanted o (yielded ops a.tmps) = true then Oper.wp Try.prog o a w K Q else X := by
  have hw : Region.wanted o (yielded ops a.tmps) = true := by simp [Region.wanted, hgd]
  rw [if_pos hw]
  unfold Oper.wp execOp
  simp [ho, resolve, invoke, builtin, hm, hx, hr, Result.andThen]
  exact h
end
end Go.Proofs.Ythfkmfepeafgjaa
namespace Go.Proofs.Ythfkmfepeafgjaa
open Go.RowKit
open Go.Maps

def RemPost (w : World) (g bm : Nat) (X : Lx) (E : List Key) (e : Ending) (w' : World) : Prop :=
  ∃ x, e = .returned x ∧ ErrW w' x (rm1 E (gr X)) ∧ Only (fun k => k = bm) w w' ∧
    ((rm1 E (gr X)).isSome = true ∧ Below w.heap.size w w' ∨ ∃ X', rm1 E (gr X) = none ∧ GA w' g bm X' ∧ gr X' = rmv E (gr X))
theorem rm1_at {R : List Key} {G : Gr} {i : Nat} (hi : i < G.length) : rm1 R (G.drop i) = if G[i].1 ∈ R then rm1 R (G.drop (i + 1)) else if anyIn G[i].2 R then some (10, some G[i].1) else rm1 R (G.drop (i + 1)) := by
  rw [List.drop_eq_getElem_cons hi, rm1]
end Go.Proofs.Ythfkmfepeafgjaa
