/- What is told of a chain of errors: its kind, its steps' names, the first place, the first hash; and what the questions of package oops do, as one proposition. No condition. -/
import Derived.Test.YtageblggakfbdaaDoorOopsAs2
import Derived.Test.YtageblggakfbdaaDoorOopsIs
namespace Go.Proofs.YtageblggakfbdaaDoor
open Go.RowKit

theorem ok_ptr (t : TypeId) (h1 : t ≠ 29) (h2 : t ≠ 65) : ∀ (L : List Lnk) (b : Value), Base b → ∀ x, fnd t L b = some x → ∃ e, x = .pointer (some e)
  | [], b, hb, x, h => by
    rcases hb with ⟨k, rfl⟩ | rfl | ⟨p, rfl⟩
    · simp [fnd] at h; exact absurd h.1.symm h1
    · simp [fnd] at h; exact absurd h.1.symm h2
    · simp [fnd] at h; exact ⟨p, h.2.symm⟩
  | l :: L, b, hb, x, h => by
    rw [fnd] at h
    by_cases hl : l.ty = t
    · rw [if_pos hl] at h; exact ⟨_, (Option.some.inj h).symm⟩
    · rw [if_neg hl] at h; exact ok_ptr t h1 h2 L b hb x h
theorem ty_ne (l : Lnk) : ¬ l.ty = 29 := by cases l <;> simp [Lnk.ty]
theorem fnd_kind : ∀ (L : List Lnk) (k : Int), fnd 29 L (.iface 29 (.int .i64 k)) = some (.int .i64 k)
  | [], k => by simp [fnd]
  | l :: L, k => by rw [fnd, if_neg (ty_ne l)]; exact fnd_kind L k
theorem fnd_strange : ∀ (L : List Lnk), fnd 29 L (.iface 65 (.agg #[])) = none
  | [] => by simp [fnd]
  | l :: L => by rw [fnd, if_neg (ty_ne l)]; exact fnd_strange L
theorem fnd_new : ∀ (L : List Lnk) (p : Addr), fnd 29 L (.iface 93 (.pointer (some p))) = none
  | [], _ => by simp [fnd]
  | l :: L, p => by rw [fnd, if_neg (ty_ne l)]; exact fnd_new L p
/-- The kind that Kind tells of the error b. -/
def kindOf : Value → Int
  | .iface 29 (.int .i64 k) => k
  | _ => 1

/-- The outermost place of the chain. -/
def fplace : List Lnk → Option Int
  | [] => none
  | .place _ n :: _ => some n
  | _ :: L => fplace L
/-- The outermost hash of the chain. -/
def fwhich : List Lnk → Option (Array Value)
  | [] => none
  | .which _ h :: _ => some h
  | _ :: L => fwhich L
theorem fnd_place (w : World) : ∀ (L : List Lnk) (b : Value), Base b → Ch w L b → (fplace L = none ∧ fnd 55 L b = none) ∨ ∃ p n u, fplace L = some n ∧ fnd 55 L b = some (.pointer (some ⟨p, 0, none⟩)) ∧ w.heap[p]? = some (.cells #[.int .i64 n, u] 62 (0, 0))
  | [], b, hb, _ => .inl ⟨rfl, by rcases hb with ⟨k, rfl⟩ | rfl | ⟨p, rfl⟩ <;> simp [fnd]⟩
  | .step p s :: L, b, hb, hc => by rw [fplace, fnd, if_neg (by simp [Lnk.ty])]; exact fnd_place w L b hb hc.2.2.2; all_goals (intros; contradiction)
  | .which p s :: L, b, hb, hc => by rw [fplace, fnd, if_neg (by simp [Lnk.ty])]; exact fnd_place w L b hb hc.2.2.2; all_goals (intros; contradiction)
  | .place p n :: L, b, hb, hc => .inr ⟨p, n, val L b, rfl, by simp [fnd, Lnk.ty, Lnk.blk], hc.1⟩
theorem fnd_which (w : World) : ∀ (L : List Lnk) (b : Value), Base b → Ch w L b → (fwhich L = none ∧ fnd 37 L b = none) ∨ ∃ p h u, fwhich L = some h ∧ fnd 37 L b = some (.pointer (some ⟨p, 0, none⟩)) ∧ w.heap[p]? = some (.cells (h.push u) 41 (0, 0)) ∧ h.size = 32
  | [], b, hb, _ => .inl ⟨rfl, by rcases hb with ⟨k, rfl⟩ | rfl | ⟨p, rfl⟩ <;> simp [fnd]⟩
  | .step p s :: L, b, hb, hc => by rw [fwhich, fnd, if_neg (by simp [Lnk.ty])]; exact fnd_which w L b hb hc.2.2.2; all_goals (intros; contradiction)
  | .place p s :: L, b, hb, hc => by rw [fwhich, fnd, if_neg (by simp [Lnk.ty])]; exact fnd_which w L b hb hc.2.2.2; all_goals (intros; contradiction)
  | .which p h :: L, b, hb, hc => .inr ⟨p, h, val L b, rfl, by simp [fnd, Lnk.ty, Lnk.blk], hc.1, hc.2.1⟩
/-- The hash of zeros. -/
def zeros : Array Value := #[.int .u8 0, .int .u8 0, .int .u8 0, .int .u8 0, .int .u8 0, .int .u8 0, .int .u8 0, .int .u8 0, .int .u8 0, .int .u8 0, .int .u8 0, .int .u8 0, .int .u8 0, .int .u8 0, .int .u8 0, .int .u8 0, .int .u8 0, .int .u8 0, .int .u8 0, .int .u8 0, .int .u8 0, .int .u8 0, .int .u8 0, .int .u8 0, .int .u8 0, .int .u8 0, .int .u8 0, .int .u8 0, .int .u8 0, .int .u8 0, .int .u8 0, .int .u8 0]
theorem range_push {w : World} {p : Nat} {h : Array Value} {u : Value} {t : TypeId} (hp : w.heap[p]? = some (.cells (h.push u) t (0, 0))) : w.rangeAt p 0 h.toList := fun j v hv => by
  rw [Nat.zero_add, cell_of_row w p j (h.push u) t (0, 0) hp]
  have hj := (List.getElem?_eq_some_iff.1 hv).1
  rw [Array.getElem?_push, if_neg (by simp at hj; omega)]
  simpa using hv
theorem zeros_one : zeros.all (·.oneCell') = true := by simp [zeros, Value.oneCell']
theorem zeros_built : Tryd.prog.built 23 (#[] : Array (Nat × Value)).toList = some zeros := by kernel_rfl
theorem zeros_info : (Tryd.prog.info? 23).map (fun i => (i.zero, i.size)) = some (some (.agg zeros), 32) := by kernel_rfl

/-- Texts as values. -/
abbrev strs (l : List ByteArray) : List Value := l.map Value.string
def nm : Lnk → List ByteArray
  | .step _ s => [s]
  | _ => []
/-- The names of the steps of the chain. -/
def names : List Lnk → List ByteArray
  | [] => []
  | l :: L => nm l ++ names L
theorem names_length : ∀ L : List Lnk, (names L).length ≤ L.length
  | [] => Nat.le_refl _
  | l :: L => by
    have := names_length L
    cases l <;> simp [names, nm] <;> omega
theorem strinfo : (Tryd.prog.info? 9).map (fun i => (i.zero, i.size, i.bytes)) = some (some (.string ⟨#[]⟩), 1, 16) := by kernel_rfl

theorem Ch.low {B : Nat} {w w' : World} (hb : Below B w w') : ∀ {L b}, Ch w L b → (∀ l ∈ L, l.blk < B) → Ch w' L b
  | [], _, _, _ => trivial
  | l :: _, _, ⟨h1, h2, h3, h4⟩, hs => ⟨(hb.block _ (hs l (List.mem_cons_self ..))).trans h1, h2, h3, Ch.low hb h4 (fun x hx => hs x (List.mem_cons_of_mem _ hx))⟩

/-- What Kind, Where, Whose and Steps do with a chain of errors. -/
structure Ctr : Prop where
  kind_nil : ∀ (w : World), Calls Tryd.prog 15 #[.nilIface] w fun e w' => e = .returned (.int .i64 0) ∧ w = w'
  kind_any : ∀ (w : World) (L : List Lnk) (b : Value) (_ : Base b) (_ : Glob w) (_ : Ch w L b) (_ : L.length ≤ 131072), Calls Tryd.prog 15 #[val L b] w fun e w' => e = .returned (.int .i64 (kindOf b)) ∧ Below w.heap.size w w'
  where_any : ∀ (w : World) (L : List Lnk) (b : Value) (_ : Base b) (_ : Glob w) (_ : Ch w L b) (_ : L.length ≤ 131072), Calls Tryd.prog 12 #[val L b] w fun e w' => e = .returned (.tuple #[.int .i64 ((fplace L).getD 0), .bool (fplace L).isSome]) ∧ Below w.heap.size w w'
  whose_any : ∀ (w : World) (L : List Lnk) (b : Value) (_ : Base b) (_ : Glob w) (_ : Ch w L b) (_ : L.length ≤ 131072) (_ : ∀ h, fwhich L = some h → h.all (·.oneCell') = true), Calls Tryd.prog 13 #[val L b] w fun e w' => e = .returned (.tuple #[.agg ((fwhich L).getD zeros), .bool (fwhich L).isSome]) ∧ Below w.heap.size w w'
  steps_any : ∀ (w : World) (L : List Lnk) (b : Value) (_ : Base b) (_ : Glob w) (_ : Ch w L b) (_ : L.length ≤ 131072), Calls Tryd.prog 11 #[val L b] w fun e w' => ∃ v, e = .returned v ∧ w'.ownsRow w.heap.size 9 1 v (names L).length (strs (names L)) ∧ Below w.heap.size w w'
  steps_nil : ∀ (w : World) (_ : Glob w), Calls Tryd.prog 11 #[.nilIface] w fun e w' => e = .returned (.slice none 0 0) ∧ Below w.heap.size w w'
  whose_nil : ∀ (w : World) (_ : Glob w), Calls Tryd.prog 13 #[.nilIface] w fun e w' => e = .returned (.tuple #[.agg zeros, .bool false]) ∧ Below w.heap.size w w'
end Go.Proofs.YtageblggakfbdaaDoor
