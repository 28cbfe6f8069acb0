/- The walk of OctetReads: it returns true, and nothing that was there has turned. -/
import Derived.Test.YtbadkgmlefmmbaaOctSv
import Derived.Test.YtbadkgmlefmmbaaOctFew
import Derived.Test.YtbadkgmlefmmbaaOctB1
import Derived.Deep.QuietTactic
import Derived.BigQuiet
import Derived.Deep.RegionWith
namespace Go.Proofs.Ytbadkgmlefmmbaa
open Go.RowKit

/-- What a call that reads k bytes as a number gives: the number, the bytes that are left, the mark. -/
def fixRes (k : Nat) (l : List Int) (lk : Bool) : Int × List Int × Bool :=
  if k ≤ l.length then (IntKind.i64.wrap (bv (l.take k)), l.drop k, lk) else (0, [], true)
def varRes (l : List Int) (lk : Bool) : Int × List Int × Bool :=
  match rv 10 0 0 l with
  | some (x, l') => (wrap64 x, l', lk)
  | none => (0, [], true)
def rawRes (n : Int) (l : List Int) (lk : Bool) : List Int × List Int × Bool :=
  if n < 0 ∨ (l.length : Int) < n then ([], [], true) else (l.take n.toNat, l.drop n.toNat, lk)

def NumPost (T B : Nat) (w : World) (b : Nat) (v : Value) (r : Int × List Int × Bool) (e : Ending) (w' : World) : Prop :=
  e = .returned (.int .i64 r.1) ∧ Rdd T B w b v r.2.1 r.2.2 w'
def RawPost (T B : Nat) (w : World) (b : Nat) (v : Value) (r : List Int × List Int × Bool) (e : Ending) (w' : World) : Prop :=
  ∃ u, e = .returned u ∧ SeenR w' u r.1 ∧ (∀ j, u.ownBlock = some j → w.heap.size ≤ j ∧ j < w'.heap.size) ∧ Rdd T B w b v r.2.1 r.2.2 w'

section
variable (B : Nat) (w : World) (b : Nat) (v : Value) (l : List Int) (lk : Bool)
theorem ru8_all (h : Rd 51 B w b v l lk) : Calls Try.prog 17 #[.pointer (some ⟨b, 0, none⟩)] w (NumPost 51 B w b v (fixRes 1 l lk)) := by
  unfold fixRes
  by_cases hk : 1 ≤ l.length
  · rw [if_pos hk]
    exact ru8_yes B w b v l lk hk h
  · rw [if_neg hk]
    exact ru8_no B w b v l lk (by omega) h
theorem su8_all (h : Rd 43 B w b v l lk) : Calls Try.prog 29 #[.pointer (some ⟨b, 0, none⟩)] w (NumPost 43 B w b v (fixRes 1 l lk)) := by
  unfold fixRes
  by_cases hk : 1 ≤ l.length
  · rw [if_pos hk]
    cases lk with
    | true => have := h.lacks rfl; subst this; simp at hk
    | false => exact su8_yes B w b v l hk h
  · rw [if_neg hk]
    exact su8_no B w b v l lk (.inr (by omega)) h
theorem ru32_all (h : Rd 51 B w b v l lk) : Calls Try.prog 30 #[.pointer (some ⟨b, 0, none⟩)] w (NumPost 51 B w b v (fixRes 4 l lk)) := by
  unfold fixRes
  by_cases hk : 4 ≤ l.length
  · rw [if_pos hk]
    exact ru32_yes B w b v l lk hk h
  · rw [if_neg hk]
    exact ru32_no B w b v l lk (by omega) h
theorem su32_all (h : Rd 43 B w b v l lk) : Calls Try.prog 31 #[.pointer (some ⟨b, 0, none⟩)] w (NumPost 43 B w b v (fixRes 4 l lk)) := by
  unfold fixRes
  by_cases hk : 4 ≤ l.length
  · rw [if_pos hk]
    cases lk with
    | true => have := h.lacks rfl; subst this; simp at hk
    | false => exact su32_yes B w b v l hk h
  · rw [if_neg hk]
    exact su32_no B w b v l lk (.inr (by omega)) h
theorem ru64_all (h : Rd 51 B w b v l lk) : Calls Try.prog 11 #[.pointer (some ⟨b, 0, none⟩)] w (NumPost 51 B w b v (fixRes 8 l lk)) := by
  unfold fixRes
  by_cases hk : 8 ≤ l.length
  · rw [if_pos hk]
    exact ru64_yes B w b v l lk hk h
  · rw [if_neg hk]
    exact ru64_no B w b v l lk (by omega) h
theorem su64_all (h : Rd 43 B w b v l lk) : Calls Try.prog 32 #[.pointer (some ⟨b, 0, none⟩)] w (NumPost 43 B w b v (fixRes 8 l lk)) := by
  unfold fixRes
  by_cases hk : 8 ≤ l.length
  · rw [if_pos hk]
    cases lk with
    | true => have := h.lacks rfl; subst this; simp at hk
    | false => exact su64_yes B w b v l hk h
  · rw [if_neg hk]
    exact su64_no B w b v l lk (.inr (by omega)) h
theorem rvar_all (h : Rd 51 B w b v l lk) : Calls Try.prog 12 #[.pointer (some ⟨b, 0, none⟩)] w (NumPost 51 B w b v (varRes l lk)) := by
  refine (rvar_any B w b v l lk h).mono fun e w' hp => ?_
  unfold VarPost at hp
  unfold NumPost varRes
  split at hp <;> simp_all
theorem svar_all (h : Rd 43 B w b v l lk) : Calls Try.prog 33 #[.pointer (some ⟨b, 0, none⟩)] w (NumPost 43 B w b v (varRes l lk)) := by
  refine (svar_any B w b v l lk h).mono fun e w' hp => ?_
  unfold VarPost at hp
  unfold NumPost varRes
  split at hp <;> simp_all
theorem rraw_all (n : Int) (h : Rd 51 B w b v l lk) : Calls Try.prog 34 #[.pointer (some ⟨b, 0, none⟩), .int .i64 n] w (RawPost 51 B w b v (rawRes n l lk)) := by
  unfold rawRes
  by_cases hn : n < 0 ∨ (l.length : Int) < n
  · rw [if_pos hn]
    refine (rraw_no B w b v l lk n hn h).mono ?_
    rintro e w' ⟨rfl, R⟩
    exact ⟨_, rfl, SeenR.nil _, fun j hj => by simp [Value.ownBlock] at hj, R⟩
  · rw [if_neg hn]
    refine (rraw_yes B w b v l lk n n.toNat (by omega) (by omega) h).mono ?_
    rintro e w' ⟨u, rfl, hs, ho, R⟩
    exact ⟨u, rfl, hs, ho, R⟩
theorem sraw_all (n : Int) (h : Rd 43 B w b v l lk) : Calls Try.prog 35 #[.pointer (some ⟨b, 0, none⟩), .int .i64 n] w fun e w' => ∃ u, e = .returned u ∧ SeenR w' u (rawRes n l lk).1 ∧ Rdd 43 B w b v (rawRes n l lk).2.1 (rawRes n l lk).2.2 w' := by
  unfold rawRes
  by_cases hn : n < 0 ∨ (l.length : Int) < n
  · rw [if_pos hn]
    refine (sraw_no B w b v l lk n (.inr hn) h).mono ?_
    rintro e w' ⟨rfl, R⟩
    exact ⟨_, rfl, SeenR.nil _, R⟩
  · rw [if_neg hn]
    cases lk with
    | true =>
      have hl := h.lacks rfl
      subst hl
      refine (sraw_no B w b v [] true n (.inl rfl) h).mono ?_
      rintro e w' ⟨rfl, R⟩
      exact ⟨_, rfl, by rw [List.take_nil]; exact SeenR.nil _, by rw [List.drop_nil]; exact R⟩
    | false =>
      refine (sraw_yes B w b v l n n.toNat (by omega) (by omega) h).mono ?_
      rintro e w' ⟨u, rfl, hs, _, R⟩
      exact ⟨u, rfl, hs, R⟩
end
end Go.Proofs.Ytbadkgmlefmmbaa
