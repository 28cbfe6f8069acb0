/- The small calls of the disk: modulo, begin, pass, Works, Dead, Used, Pending, Fuse. Conditions: the numbers are no greater than a program's may be. · strings.Clone: the same bytes. Condition: the string is within what a string may take up. -/
import Derived.Test.YtfneadlknieppaaGreatDoorDskD
import Derived.Shelf.Strconv.Clone
namespace Go.Proofs.YtfneadlknieppaaGreatDoor
open Go.RowKit

theorem modulo_to (w : World) (n m : Int) (h : 0 < m) (hm : m ≤ 4611686018427387904) : Calls Tryz.prog 30 #[.int .i64 n, .int .i64 m] w fun e w' => e = .returned (.int .i64 (n % m)) ∧ w = w' := by
  have h1 := Int.tmod_lt_of_pos n h
  have h3 : ¬ m = 0 := by omega
  have h4 : (n.tmod m + m) % m = n % m := by
    have := Int.tmod_eq_emod (a := n) (b := m)
    have hp := Int.emod_nonneg n h3
    have hl := Int.emod_lt_of_pos n h
    split at this
    · rw [this, Int.add_emod_right]; simp
    · rw [this, show n % m - ↑m.natAbs + m = n % m by omega, Int.emod_emod_of_dvd _ (Int.dvd_refl m)]
  have h2 : -m < n.tmod m := by
    have := Int.tmod_eq_emod (a := n) (b := m)
    have hp := Int.emod_nonneg n h3
    have hl := Int.emod_lt_of_pos n h
    split at this <;> omega
  have H4 := Lib.hid h4
  clear h4
  go_enter Tryz.func30, Tryz.ntmps30
  go_wp2
  go_ret
  refine ⟨?_, rfl⟩
  show Ending.returned (.int .i64 ((n.tmod m + m) % m)) = _
  rw [H4.out]

theorem works_to (w : World) (b : Nat) (c : Cst) (h : DAt w b c) : Calls Tryz.prog 23 #[.pointer (some ⟨b,0,none⟩)] w fun e w' => e = .returned (.int .i64 c.works) ∧ w = w' := by
  have c6 := h.c6
  clear h
  go_enter Tryz.func23, Tryz.ntmps23
  go_wp2
  go_ret
  exact ⟨rfl, rfl⟩
theorem used_to (w : World) (b : Nat) (c : Cst) (h : DAt w b c) : Calls Tryz.prog 25 #[.pointer (some ⟨b,0,none⟩)] w fun e w' => e = .returned (.int .i64 (if c.dead = true then 0 else c.used)) ∧ w = w' := by
  have c6 := h.c5
  have c2 := h.c2
  clear h
  by_cases hd : c.dead = true
  · rw [hd] at c6 ⊢
    go_enter Tryz.func25, Tryz.ntmps25
    go_wp2
    go_ret
    exact ⟨rfl, rfl⟩
  · have hd' : c.dead = false := by simpa using hd
    rw [hd'] at c6 ⊢
    go_enter Tryz.func25, Tryz.ntmps25
    go_wp2
    go_ret
    exact ⟨rfl, rfl⟩
theorem fuse_to (w : World) (b : Nat) (c : Cst) (n : Int) (h : DAt w b c) : Calls Tryz.prog 9 #[.pointer (some ⟨b,0,none⟩), .int .i64 n] w fun e w' => e = .returned (.tuple #[]) ∧ DAt w' b { c with fuse := n } ∧ Only (fun k => k = b) w w' := by
  have c4 := h.c4
  have f4 := h.fz 4
  have H := Lib.hid h
  clear h
  go_enter Tryz.func9, Tryz.ntmps9
  go_wp2
  go_end0
  exact ⟨rfl, H.out.set4 n, (Only.refl _ _).one (S := fun k => k = b) rfl _⟩

/-- What pass leaves, and what it returns. -/
def Cst.pass (c : Cst) : Cst := if c.fuse = 0 then { c with dead := true } else { c with fuse := if 0 < c.fuse then c.fuse - 1 else c.fuse, works := c.works + 1 }
theorem pass_to (w : World) (b : Nat) (c : Cst) (h : DAt w b c) (hw : 0 ≤ c.works) (hw' : c.works < 4611686018427387904) (hf : c.fuse < 9223372036854775808) :
    Calls Tryz.prog 37 #[.pointer (some ⟨b,0,none⟩)] w fun e w' => e = .returned (if c.fuse = 0 then eno 7 else .nilIface) ∧ DAt w' b c.pass ∧ Only (fun k => k = b) w w' := by
  have c4 := h.c4
  have c5 := h.c5
  have c6 := h.c6
  have f4 := h.fz 4
  have f5 := h.fz 5
  have f6 := h.fz 6
  have H := Lib.hid h
  clear h
  unfold Cst.pass
  by_cases h0 : c.fuse = 0
  · rw [h0] at c4
    rw [if_pos h0, if_pos h0]
    go_enter Tryz.func37, Tryz.ntmps37
    go_wp2
    go_ret
    exact ⟨rfl, H.out.set5 true, (Only.refl _ _).one (S := fun k => k = b) rfl _⟩
  · rw [if_neg h0, if_neg h0]
    by_cases h1 : 0 < c.fuse
    · rw [if_pos h1]
      go_enter Tryz.func37, Tryz.ntmps37
      go_wp2
      go_ret
      exact ⟨rfl, (H.out.set4 _).set6 _, ((Only.refl _ _).one (S := fun k => k = b) rfl _).one (S := fun k => k = b) rfl _⟩
    · rw [if_neg h1]
      go_enter Tryz.func37, Tryz.ntmps37
      go_wp2
      go_ret
      exact ⟨rfl, H.out.set6 _, (Only.refl _ _).one (S := fun k => k = b) rfl _⟩

/-- Whether a name may be. -/
def okName (n : Key) : Bool := decide (1 ≤ n.length) && decide (n.length ≤ 20)
/-- What begin returns for names and a disk that is dead or not. -/
def bgErr (l : List Key) (dead : Bool) : Value := if l.all okName then (if dead then eno 7 else .nilIface) else eno 1
theorem begin_nil (w : World) (b : Nat) (c : Cst) (h : DAt w b c) :
    Calls Tryz.prog 36 #[.pointer (some ⟨b,0,none⟩), .slice none 0 0] w fun e w' => e = .returned (bgErr [] c.dead) ∧ w = w' := by
  have c5 := h.c5
  clear h
  cases hd : c.dead <;> rw [hd] at c5
  all_goals
    go_enter Tryz.func36, Tryz.ntmps36
    go_wp2
    refine wp_loop_rounds 1 ?_
    rw [rounds_succ]
    go_wp2
    go_ret
    exact ⟨rfl, rfl⟩
theorem str_size (n : Key) : (⟨n.toArray⟩ : ByteArray).size = n.length := rfl
theorem begin_one (w : World) (b : Nat) (c : Cst) (h : DAt w b c) (n : Key) (a : Addr) (cap : Nat) (ha : w.cell? a = some (stv n)) (hn : n.length ≤ 4611686018427387904) :
    Calls Tryz.prog 36 #[.pointer (some ⟨b,0,none⟩), .slice (some a) 1 cap] w fun e w' => e = .returned (bgErr [n] c.dead) ∧ w = w' := by
  have c5 := h.c5
  have hsz := str_size n
  have ha0 : w.cell? (a.add 0) = some (stv n) := ha
  clear h
  unfold bgErr
  rw [show [n].all okName = okName n from by simp]
  by_cases h1 : n.length < 1
  · have e : okName n = false := by simp [okName]; omega
    rw [e]
    have h1' : (n.length : Int) < 1 := by omega
    go_enter Tryz.func36, Tryz.ntmps36
    go_wp2
    refine wp_loop_rounds 2 ?_
    rw [rounds_succ]
    go_wp2
    go_ret
    exact ⟨rfl, rfl⟩
  · have h1' : ¬ (n.length : Int) < 1 := by omega
    by_cases h2 : 20 < n.length
    · have e : okName n = false := by simp [okName]; omega
      rw [e]
      have h2' : 20 < (n.length : Int) := by omega
      go_enter Tryz.func36, Tryz.ntmps36
      go_wp2
      refine wp_loop_rounds 2 ?_
      rw [rounds_succ]
      go_wp2
      go_ret
      exact ⟨rfl, rfl⟩
    · have e : okName n = true := by simp [okName]; omega
      rw [e]
      have h2' : ¬ 20 < (n.length : Int) := by omega
      cases hd : c.dead <;> rw [hd] at c5
      all_goals
        go_enter Tryz.func36, Tryz.ntmps36
        go_wp2
        refine wp_loop_rounds 2 ?_
        rw [rounds_succ]
        go_wp2
        rw [rounds_succ]
        go_wp2
        go_ret
        exact ⟨rfl, rfl⟩
end Go.Proofs.YtfneadlknieppaaGreatDoor
namespace Go.Proofs.YtfneadlknieppaaGreatDoor
open Go.RowKit Go.Shelf
def Tryz.hclone_ren : Go.Shelf.Ren := ⟨fun | 316 => 98 | n => n, fun | 9 => 9 | 3 => 3 | 4 => 4 | 37 => 37 | 0 => 0 | 127 => 179 | 5 => 5 | n => n, fun | n => n⟩
theorem Tryz.hclone : Go.Proofs.LaysM.n316 Tryz.prog Tryz.hclone_ren := {
  mixed := by kernel_rfl
  f316 := Tryz.func98.trans (congrArg some (by kernel_rfl))
  t0 := Tryz.underlying0
  a0 := Tryz.isAgg0
  z0 := Tryz.sizeOf0
  v0 := Tryz.zeroValue0
  t3 := Tryz.underlying3
  a3 := Tryz.isAgg3
  z3 := Tryz.sizeOf3
  v3 := Tryz.zeroValue3
  t4 := Tryz.underlying4
  a4 := Tryz.isAgg4
  z4 := Tryz.sizeOf4
  v4 := Tryz.zeroValue4
  t9 := Tryz.underlying9
  a9 := Tryz.isAgg9
  z9 := Tryz.sizeOf9
  v9 := Tryz.zeroValue9
  t37 := Tryz.underlying37
  a37 := Tryz.isAgg37
  z37 := Tryz.sizeOf37
  v37 := Tryz.zeroValue37
  t127 := Tryz.underlying179
  a127 := Tryz.isAgg179
  z127 := Tryz.sizeOf179
  v127 := Tryz.zeroValue179
  t5 := Tryz.underlying5
  a5 := Tryz.isAgg5
  z5 := Tryz.sizeOf5
  v5 := Tryz.zeroValue5
  i0 := by kernel_rfl
  i3 := by kernel_rfl
  i4 := by kernel_rfl
  i5 := by kernel_rfl
  i9 := by kernel_rfl
  i37 := by kernel_rfl
  i127 := by kernel_rfl }
theorem sclone_to (w : World) (s : ByteArray) (h : s.size ≤ 281474976710656) : Calls Tryz.prog 71 #[.string s] w fun e w' => e = .returned (.string s) ∧ Below w.heap.size w w' := by
  have hc : Calls Tryz.prog 98 #[.string s] w fun e w' => e = .returned (.string s) ∧ Below w.heap.size w w' := Any.stringslite_Clone Tryz.hclone s w h
  go_enter Tryz.func71, Tryz.ntmps71
  go_wp2_with fail
  refine hc.mono ?_
  rintro e w1 ⟨rfl, b1⟩
  go_wp2_with fail
  go_ret
  exact ⟨rfl, b1⟩
end Go.Proofs.YtfneadlknieppaaGreatDoor
