/- slices.SortFunc over hashes: a permutation, ascending. Condition: the slice is within what a slice may take up. -/
import Derived.Test.YthfkmfepeafgjaaHexSk
import Derived.Test.YthfkmfepeafgjaaHexE
import Derived.Shelf.SlSortCmp.NoneTotal
namespace Go.Proofs.Ythfkmfepeafgjaa
open Go.RowKit Go.Shelf
open Go.Sort (HoldsK putRowK flatK grow PermIn SortedIn SWO)
def Try.hsortf_ren : Go.Shelf.Ren := ⟨fun | 6 => 68 | 15 => 77 | 14 => 76 | 28 => 87 | 29 => 88 | 20 => 79 | 21 => 80 | 22 => 81 | 23 => 82 | 24 => 83 | 25 => 84 | 26 => 85 | 27 => 86 | 46 => 90 | 47 => 91 | 48 => 92 | 49 => 93 | 50 => 94 | 57 => 95 | n => n, fun | 22 => 25 | 24 => 28 | 25 => 115 | 3 => 3 | 39 => 47 | 0 => 0 | 53 => 134 | 55 => 136 | 4 => 4 | 46 => 127 | 45 => 126 | 50 => 131 | 5 => 5 | 9 => 9 | 66 => 137 | 70 => 141 | 76 => 143 | 77 => 144 | n => n, fun | n => n⟩
theorem Try.hsortf : Go.Proofs.SlLaysF0.n6 Try.prog Try.hsortf_ren := {
  mixed := by kernel_rfl
  f6 := ⟨Try.f68.name, by decide, Try.func68.trans (congrArg some (by kernel_rfl))⟩
  f14 := ⟨Try.f76.name, by decide, Try.func76.trans (congrArg some (by kernel_rfl))⟩
  f15 := Try.func77.trans (congrArg some (by kernel_rfl))
  f20 := ⟨Try.f79.name, by decide, Try.func79.trans (congrArg some (by kernel_rfl))⟩
  f21 := ⟨Try.f80.name, by decide, Try.func80.trans (congrArg some (by kernel_rfl))⟩
  f22 := ⟨Try.f81.name, by decide, Try.func81.trans (congrArg some (by kernel_rfl))⟩
  f23 := ⟨Try.f82.name, by decide, Try.func82.trans (congrArg some (by kernel_rfl))⟩
  f24 := ⟨Try.f83.name, by decide, Try.func83.trans (congrArg some (by kernel_rfl))⟩
  f25 := ⟨Try.f84.name, by decide, Try.func84.trans (congrArg some (by kernel_rfl))⟩
  f26 := ⟨Try.f85.name, by decide, Try.func85.trans (congrArg some (by kernel_rfl))⟩
  f27 := ⟨Try.f86.name, by decide, Try.func86.trans (congrArg some (by kernel_rfl))⟩
  f28 := Try.func87.trans (congrArg some (by kernel_rfl))
  f29 := Try.func88.trans (congrArg some (by kernel_rfl))
  f46 := ⟨Try.f90.name, by decide, Try.func90.trans (congrArg some (by kernel_rfl))⟩
  f47 := Try.func91.trans (congrArg some (by kernel_rfl))
  f48 := Try.func92.trans (congrArg some (by kernel_rfl))
  f49 := ⟨Try.f93.name, by decide, Try.func93.trans (congrArg some (by kernel_rfl))⟩
  f50 := ⟨Try.f94.name, by decide, Try.func94.trans (congrArg some (by kernel_rfl))⟩
  f57 := ⟨Try.f95.name, by decide, Try.func95.trans (congrArg some (by kernel_rfl))⟩
  t0 := Try.underlying0
  a0 := Try.isAgg0
  z0 := Try.sizeOf0
  v0 := Try.zeroValue0
  t3 := Try.underlying3
  a3 := Try.isAgg3
  z3 := Try.sizeOf3
  v3 := Try.zeroValue3
  t4 := Try.underlying4
  a4 := Try.isAgg4
  z4 := Try.sizeOf4
  v4 := Try.zeroValue4
  t5 := Try.underlying5
  a5 := Try.isAgg5
  z5 := Try.sizeOf5
  v5 := Try.zeroValue5
  t9 := Try.underlying9
  a9 := Try.isAgg9
  z9 := Try.sizeOf9
  v9 := Try.zeroValue9
  t22 := Try.underlying25
  a22 := Try.isAgg25
  z22 := Try.sizeOf25
  v22 := Try.zeroValue25
  t25 := Try.underlying115
  a25 := Try.isAgg115
  z25 := Try.sizeOf115
  v25 := Try.zeroValue115
  t39 := Try.underlying47
  a39 := Try.isAgg47
  z39 := Try.sizeOf47
  v39 := Try.zeroValue47
  t45 := Try.underlying126
  a45 := Try.isAgg126
  z45 := Try.sizeOf126
  v45 := Try.zeroValue126
  t46 := Try.underlying127
  a46 := Try.isAgg127
  z46 := Try.sizeOf127
  v46 := Try.zeroValue127
  t50 := Try.underlying131
  a50 := Try.isAgg131
  z50 := Try.sizeOf131
  v50 := Try.zeroValue131
  t53 := Try.underlying134
  a53 := Try.isAgg134
  z53 := Try.sizeOf134
  v53 := Try.zeroValue134
  t55 := Try.underlying136
  a55 := Try.isAgg136
  z55 := Try.sizeOf136
  v55 := Try.zeroValue136
  t66 := Try.underlying137
  a66 := Try.isAgg137
  z66 := Try.sizeOf137
  v66 := Try.zeroValue137
  t70 := Try.underlying141
  a70 := Try.isAgg141
  z70 := Try.sizeOf141
  v70 := Try.zeroValue141
  t76 := Try.underlying143
  a76 := Try.isAgg143
  z76 := Try.sizeOf143
  v76 := Try.zeroValue143
  t77 := Try.underlying144
  a77 := Try.isAgg144
  z77 := Try.sizeOf144
  v77 := Try.zeroValue144 }

/-- A hash, with its length. -/
abbrev Hs := { l : List UInt8 // l.length = 32 }
instance : Inhabited Hs := ⟨⟨hz, rfl⟩⟩
def encH (x : Hs) : List Value := us (nmb x.1)
def cfH (x y : Hs) : Int := Lib.compareBytes x.1 y.1
theorem encH_length (x : Hs) : (encH x).length = 32 := by unfold encH; rw [usn_length, x.2]
theorem encH_one (x : Hs) : ∀ v ∈ encH x, v.oneCell' = true := fun v hv => by
  obtain ⟨y, _, rfl⟩ := List.mem_map.1 hv
  rfl
theorem ltH (x y : Hs) : ltOf cfH x y = Op.bytesLess x.1 y.1 := cmp_less x.1 y.1
theorem swoH : SWO (ltOf cfH) where
  irrefl x := by rw [ltH]; exact less_irrefl _
  trans x y z h k := by rw [ltH] at *; exact less_trans _ _ _ h k
  ntrans x y z h k := by
    rw [ltH] at *
    cases hb : Op.bytesLess x.1 z.1 with
    | false => rfl
    | true =>
      cases hc : Op.bytesLess y.1 x.1 with
      | true => have := less_trans _ _ _ hc hb; rw [k] at this; cases this
      | false => rw [less_total _ _ h hc] at hb; rw [k] at hb; cases hb
theorem lays_cmp (blk off size : Nat) (w : World) : CmpLays Try.prog 69 #[] encH 32 cfH blk off size w := fun m os dk _ x y => by
  have h := compare_to (sortWorldK encH 32 w blk off m dk os) x.1 y.1 x.2 y.2
  refine h.mono ?_
  rintro e w' ⟨he, q, hw⟩
  exact ⟨he, q, _, by rw [hw, Sort.alloc_eq_grow, Sort.alloc_eq_grow, Sort.grow_grow]; rfl⟩

theorem lift_H : ∀ E : List (List UInt8), H32 E → ∃ d : List Hs, d.map (·.1) = E
  | [], _ => ⟨[], rfl⟩
  | h :: E, hE => by
    obtain ⟨d, hd⟩ := lift_H E (fun x hx => hE x (List.mem_cons_of_mem _ hx))
    exact ⟨⟨h, hE h (List.mem_cons_self ..)⟩ :: d, by rw [List.map_cons, hd]⟩
theorem flat_fl (d : Array Hs) : (flatK encH 32 d).toList = fl (d.toList.map (·.1)) := by
  have hE : H32 (d.toList.map (·.1)) := fun x hx => by
    obtain ⟨y, _, rfl⟩ := List.mem_map.1 hx
    exact y.2
  refine List.ext_getElem? fun t => ?_
  by_cases ht : t < d.size * 32
  · have hi : t / 32 < d.size := by omega
    have hg := Sort.get_flatK encH 32 d t ht
    have hs : t < (flatK encH 32 d).size := by rw [Sort.size_flatK]; exact ht
    have e1 : (flatK encH 32 d).toList[t]? = some ((encH d[t / 32]!)[t % 32]!) := by
      rw [Array.getElem?_toList, Array.getElem?_eq_getElem hs, ← hg, getElem!_pos _ t hs]
    have hi2 : t / 32 < (d.toList.map (·.1)).length := by simpa using hi
    have e2 := fl_at hE (i := t / 32) (c := t % 32) hi2 (by omega)
    rw [show t / 32 * 32 + t % 32 = t from by omega] at e2
    have hd : d[t / 32]! = d[t / 32] := getElem!_pos d (t / 32) hi
    rw [e1, e2, hd]
    have hl : t % 32 < (encH d[t / 32]).length := by rw [encH_length]; omega
    rw [getElem!_pos (encH d[t / 32]) (t % 32) hl]
    simp only [List.getElem_map, Array.getElem_toList]
    exact (List.getElem?_eq_getElem hl).symm
  · rw [List.getElem?_eq_none (by rw [Array.length_toList, Sort.size_flatK]; omega), List.getElem?_eq_none (by rw [fl_length hE]; simp; omega)]

theorem put_row (F : Array Value) (C R : List Value) (h : F.size = C.length) : Sort.putCells id 0 F (C ++ R).toArray = (F.toList ++ R).toArray := by
  apply Array.ext_getElem?
  intro t
  unfold Sort.putCells
  rw [Array.getElem?_mapIdx, List.getElem?_toArray, List.getElem?_toArray]
  by_cases ht : t < F.size
  · rw [List.getElem?_append_left (by omega), List.getElem?_append_left (by simpa using ht), List.getElem?_eq_getElem (show t < C.length by omega)]
    simp [ht]
  · rw [List.getElem?_append_right (by omega), List.getElem?_append_right (by simp; omega), show F.toList.length = C.length from by simpa using h]
    generalize R[t - C.length]? = o
    cases o with
    | none => rfl
    | some v => rw [Option.map_some, if_neg (by omega)]

theorem grow_at (X : World) (os : Array Obj) (k : Nat) (hk : k < X.heap.size) : (grow X os).heap[k]? = X.heap[k]? := by
  show (X.heap ++ os)[k]? = _
  rw [Array.getElem?_append_left hk]
theorem putK_at (w : World) (n g : Nat) (d : Array Hs) (k : Nat) : (putRowK encH 32 (Sort.ahead w n) g 0 d).heap[k]? = if g = k then (w.heap[k]?).map (Sort.onCells (Sort.putCells id 0 (flatK encH 32 d))) else w.heap[k]? := by
  show (w.heap.modify g (Sort.onCells (Sort.putCells id 0 (flatK encH 32 d))))[k]? = _
  rw [Array.getElem?_modify]
theorem putK_size (w : World) (n g : Nat) (d : Array Hs) : (putRowK encH 32 (Sort.ahead w n) g 0 d).heap.size = w.heap.size := by
  show (w.heap.modify g (Sort.onCells (Sort.putCells id 0 (flatK encH 32 d)))).size = _
  rw [Array.size_modify]
theorem hsort_none (p : Option Addr) (cap : Nat) (W : World) : Calls Try.prog 68 #[.slice p 0 cap, .func (.func 69) #[] #[]] W fun e w' => e = .returned (.tuple #[]) ∧ w' = W := 
  AnyF.slices_SortFunc_none Try.hsortf p cap (.func (.func 69) #[] #[]) W
theorem hsort_to (w : World) (g cap : Nat) (E : List (List UInt8)) (hE : H32 E) (R : List Value) (hg : w.heap[g]? = some (.cells (fl E ++ R).toArray 28 (0, 0))) (hn : E.length < 4611686018427387904) :
    Calls Try.prog 68 #[.slice (some ⟨g, 0, none⟩) E.length cap, .func (.func 69) #[] #[]] w fun e w' => e = .returned (.tuple #[]) ∧
      ∃ E', H32 E' ∧ E'.length = E.length ∧ (∀ a, a ∈ E' ↔ a ∈ E) ∧ E'.Pairwise (fun a b => Op.bytesLess b a = false) ∧ w'.heap[g]? = some (.cells (fl E' ++ R).toArray 28 (0, 0)) ∧ Only (fun k => k = g) w w' := by
  have eg : ∀ args w, (callFunc 69 args).run Try.prog w = .ok (.enter 69 args) w := enters_of Try.func69 (by kernel_rfl) rfl
  obtain ⟨dl, hdl⟩ := lift_H E hE
  obtain ⟨d, hdm⟩ : ∃ d : Array Hs, d.toList.map (·.1) = E := ⟨dl.toArray, hdl⟩
  have hds : d.size = E.length := by rw [← hdm]; simp
  have hfl := flat_fl d
  rw [hdm] at hfl
  have hgl := (Array.getElem?_eq_some_iff.1 hg).1
  have hH : HoldsK encH 32 w g 0 d := fun t ht => by
    rw [Nat.zero_add]
    have hs : t < (fl E).length := by rw [← hfl]; simpa using ht
    constructor
    · rw [cell_of_row w g t _ _ _ hg, List.getElem?_toArray, List.getElem?_append_left hs, ← hfl, Array.getElem?_toList, getElem!_pos _ t ht]
      simp
    · simp [World.frozen?, hg]
  have hc := AnyQ.slices_SortFunc Try.hsortf 32 Try.isAgg28 Try.sizeOf28 encH encH_length encH_one cfH swoH 69 #[] g 0 cap d w eg (lays_cmp g 0 d.size w) hH hgl (by omega)
  rw [hds] at hc
  refine Calls.mono hc ?_
  rintro e w' ⟨he, d', n, os, hp, hso, rfl⟩
  refine ⟨he, d'.toList.map (·.1), ?_, ?_, ?_, ?_, ?_, ?_⟩
  · intro x hx
    obtain ⟨y, _, rfl⟩ := List.mem_map.1 hx
    exact y.2
  · rw [List.length_map, Array.length_toList, hp.1, hds]
  · intro a
    have hpm := hp.2.2
    have e1 : d'.extract 0 E.length = d' := by rw [← hds, ← hp.1]; exact Array.extract_size
    have e2 : d.extract 0 E.length = d := by rw [← hds]; exact Array.extract_size
    rw [e1, e2] at hpm
    rw [← hdm]
    exact (hpm.map (·.1)).mem_iff
  · rw [List.pairwise_iff_getElem]
    intro i j hi hj hij
    have hi' : i < d'.size := by simpa using hi
    have hj' : j < d'.size := by simpa using hj
    have h := hso i j (Nat.zero_le _) hij (by rw [← hds, ← hp.1]; exact hj')
    rw [getElem!_pos d' i hi', getElem!_pos d' j hj', ltH] at h
    simpa using h
  · show (grow (putRowK encH 32 (Sort.ahead w n) g 0 d') os).heap[g]? = _
    rw [grow_at _ _ _ (by rw [putK_size]; exact hgl), putK_at, if_pos rfl, hg]
    show some (Obj.cells (Sort.putCells id 0 (flatK encH 32 d') (fl E ++ R).toArray) _ _) = _
    rw [put_row _ _ _ (by rw [Sort.size_flatK, hp.1, hds, fl_length hE]), flat_fl]
  · refine ⟨rfl, rfl, rfl, ?_, fun k hk hn => ?_⟩
    · show _ ≤ ((putRowK encH 32 (Sort.ahead w n) g 0 d').heap ++ os).size
      rw [Array.size_append, putK_size]; omega
    · show (grow (putRowK encH 32 (Sort.ahead w n) g 0 d') os).heap[k]? = _
      rw [grow_at _ _ _ (by rw [putK_size]; exact hk), putK_at, if_neg (fun e => hn e.symm)]
end Go.Proofs.Ythfkmfepeafgjaa
