/- What the bound on the size of what is read gives for a slice of bytes. -/
import Derived.Test.YtageblggakfbdaaDoorRows
import Derived.Test.YtageblggakfbdaaDoorGenIn
namespace Go.Proofs.YtageblggakfbdaaDoor
open Go.RowKit Go.ChangeShapes Go.WideShapes Go.Deep

theorem bulk_pos {H : Type} (d : DataW H) : 0 < Rows.uptoBulk d := by
  cases d with
  | lit l => cases l <;> simp [Rows.uptoBulk]
  | _ => simp [Rows.uptoBulk]
theorem bulk_in {H : Type} {d : DataW H} : ∀ {l : List (DataW H)}, d ∈ l → Rows.uptoBulk d ≤ Rows.uptoBulkAll l
  | x :: r, h => by
    have e : Rows.uptoBulkAll (x :: r) = Rows.uptoBulk x + Rows.uptoBulkAll r := by rw [Rows.uptoBulkAll]
    rw [e]
    rcases List.mem_cons.1 h with rfl | h
    · omega
    · have := bulk_in h
      omega
theorem bulk_len {H : Type} : ∀ l : List (DataW H), l.length ≤ Rows.uptoBulkAll l
  | [] => Nat.zero_le _
  | x :: r => by
    have e : Rows.uptoBulkAll (x :: r) = Rows.uptoBulk x + Rows.uptoBulkAll r := by rw [Rows.uptoBulkAll]
    have h1 := bulk_pos x
    have h2 := bulk_len r
    rw [e, List.length_cons]
    omega
theorem bulk_slice {H : Type} (l r : List (DataW H)) : Rows.uptoBulk (.slice l r) = Rows.uptoBulkAll l + Rows.uptoBulkAll r + 1 := by rw [Rows.uptoBulk]
theorem bulk_agg {H : Type} (l : List (DataW H)) : Rows.uptoBulk (.agg l) = Rows.uptoBulkAll l + 1 := by rw [Rows.uptoBulk]
theorem bulk_string {H : Type} (s : List UInt8) : Rows.uptoBulk (DataW.lit (H := H) (.string s)) = s.length + 1 := by rw [Rows.uptoBulk]
/-- The bound, for one of the readings. -/
theorem bulk_small {H : Type} {l : List (DataW H)} (hk : Rows.uptoSmall H l = true) {d : DataW H} (h : d ∈ l) : Rows.uptoBulk d ≤ 1048576 := Nat.le_trans (bulk_in h) (of_decide_eq_true hk)
theorem bulk_bytes {H : Type} {l : List (DataW H)} (hk : Rows.uptoSmall H l = true) {d : DataW H} (h : d ∈ l) {n : Nat} {xs : List Int} (hn : xs.length = n) (hd : n = 0 ∨ ∃ rest, d = .slice (lits .u8 xs) rest) : xs.length ≤ 1048576 := by
  rcases hd with h0 | ⟨rest, rfl⟩
  · omega
  · have h1 := bulk_small hk h
    rw [bulk_slice] at h1
    have h2 := bulk_len (H := H) (lits .u8 xs)
    have h3 : (lits (H := H) .u8 xs).length = xs.length := by simp [lits]
    omega
end Go.Proofs.YtageblggakfbdaaDoor
