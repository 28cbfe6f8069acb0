/- What the bound on the size of what is read gives for a slice of steps. -/
import Derived.Test.YtbadkgmlefmmbaaRows
import Derived.Test.YtbadkgmlefmmbaaOctBytesIn
namespace Go.Proofs.Ytbadkgmlefmmbaa
open Go.RowKit Go.ChangeShapes Go.WideShapes Go.Deep

theorem bulk_pos {H : Type} (d : DataW H) : 0 < Rows.uptoBulk d := by
  cases d with
  | lit l => cases l <;> simp [Rows.uptoBulk]
  | _ => simp [Rows.uptoBulk]
theorem bulk_in {H : Type} {d : DataW H} : ∀ {l : List (DataW H)}, d ∈ l → Rows.uptoBulk d ≤ Rows.uptoBulkAll l
  | x :: r, h => by
    have e : Rows.uptoBulkAll (x :: r) = Rows.uptoBulk x + Rows.uptoBulkAll r := by rw [Rows.uptoBulkAll]
    rw [e]
    rcases List.mem_cons.1 h with rfl | h
    · omega
    · have := bulk_in h
      omega
theorem bulk_len {H : Type} : ∀ l : List (DataW H), l.length ≤ Rows.uptoBulkAll l
  | [] => Nat.zero_le _
  | x :: r => by
    have e : Rows.uptoBulkAll (x :: r) = Rows.uptoBulk x + Rows.uptoBulkAll r := by rw [Rows.uptoBulkAll]
    have h1 := bulk_pos x
    have h2 := bulk_len r
    rw [e, List.length_cons]
    omega
theorem bulk_slice {H : Type} (l r : List (DataW H)) : Rows.uptoBulk (.slice l r) = Rows.uptoBulkAll l + Rows.uptoBulkAll r + 1 := by rw [Rows.uptoBulk]
theorem bulk_agg {H : Type} (l : List (DataW H)) : Rows.uptoBulk (.agg l) = Rows.uptoBulkAll l + 1 := by rw [Rows.uptoBulk]

/-- A step with its bytes. -/
def FullStep (w : World) (ao : Option Addr) (i : Nat) (W N : Int) (A : Option Addr) (C : Nat) (L : List Int) : Prop :=
  StepAt w ao i W N (.slice A L.length C) ∧ Seen w (.slice A L.length C) L ∧ L.length ≤ 1048576

theorem steps_full {H : Type} {enc : TypeId × Value → H} {w : World} {base : Nat} {spare : Nat → Bool} {held : Bool} {a0 : Option Addr} {len cap fuel : Nat} {d : DataW H} {p : List MemPlace}
    (h : DataW.trod enc Try.prog w base spare held fuel 31 [.slice a0 len cap] = some (d, p)) (hb : Rows.uptoBulk d ≤ 1048576) :
    len ≤ 9223372036854775807 ∧ ∃ (W N : Nat → Int) (A : Nat → Option Addr) (C : Nat → Nat) (L : Nat → List Int), ∀ i, i < len → FullStep w a0 i (W i) (N i) (A i) (C i) (L i) := by
  obtain ⟨⟨_, hm⟩, hs⟩ := open_steps h
  refine ⟨hm, ?_⟩
  rcases hs with ⟨_, hl, _⟩ | ⟨elems, rest, rfl, _, he⟩
  · exact ⟨fun _ => 0, fun _ => 0, fun _ => none, fun _ => 0, fun _ => [], fun i hi => by omega⟩
  · have hex : ∀ i, i < len → ∃ x : Int × Int × Option Addr × Nat × List Int, FullStep w a0 i x.1 x.2.1 x.2.2.1 x.2.2.2.1 x.2.2.2.2 := by
      intro i hi
      obtain ⟨W, N, V, n, x0, x1, y, q, hst, _, _, hel, ht⟩ := he i hi
      obtain ⟨a, l, c, rfl⟩ : ∃ a l c, V = .slice a l c := by
        rcases open_slice Try.underlying24 ht with ⟨hcs, _⟩ | ⟨a, l, c, _, _, _, _, hcs, _⟩
        · simp at hcs; exact ⟨_, _, _, hcs⟩
        · simp at hcs; exact ⟨_, _, _, hcs⟩
      obtain ⟨L, hL, _, hseen, hd⟩ := bytes_in ht
      refine ⟨(W, N, a, c, L), ?_, ?_, ?_⟩
      · rw [hL]; exact hst
      · rw [hL]; exact hseen
      · rcases hd with h0 | ⟨rest', rfl⟩
        · show L.length ≤ 1048576
          omega
        · have b1 := bulk_in (List.mem_of_getElem? hel)
          have b2 : Rows.uptoBulk (DataW.slice (H := H) (lits .u8 L) rest') ≤ Rows.uptoBulkAll [x0, x1, .slice (lits .u8 L) rest'] := bulk_in (by simp)
          have b3 := bulk_len (H := H) (lits .u8 L)
          rw [bulk_slice] at b2 hb
          rw [bulk_agg] at b1
          have e : (lits (H := H) .u8 L).length = L.length := by simp [lits]
          show L.length ≤ 1048576
          omega
    obtain ⟨f, hf⟩ := choose_lt hex
    exact ⟨fun i => (f i).1, fun i => (f i).2.1, fun i => (f i).2.2.1, fun i => (f i).2.2.2.1, fun i => (f i).2.2.2.2, hf⟩
end Go.Proofs.Ytbadkgmlefmmbaa
