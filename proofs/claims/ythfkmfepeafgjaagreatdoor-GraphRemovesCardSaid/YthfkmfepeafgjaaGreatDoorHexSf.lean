/- slices.SortFunc over hashes: a permutation, ascending. Condition: the slice is within what a slice may take up. -/
import Derived.Test.YthfkmfepeafgjaaGreatDoorHexSk
import Derived.Test.YthfkmfepeafgjaaGreatDoorHexE
import Derived.Shelf.SlSortCmp.NoneTotal
namespace Go.Proofs.YthfkmfepeafgjaaGreatDoor
open Go.RowKit Go.Shelf
open Go.Sort (HoldsK putRowK flatK grow PermIn SortedIn SWO)
def Tryz.hsortf_ren : Go.Shelf.Ren := ⟨fun | 6 => 60 | 15 => 73 | 14 => 72 | 28 => 87 | 29 => 88 | 20 => 79 | 21 => 80 | 22 => 81 | 23 => 82 | 24 => 83 | 25 => 84 | 26 => 85 | 27 => 86 | 46 => 90 | 47 => 91 | 48 => 92 | 49 => 93 | 50 => 94 | 57 => 95 | n => n, fun | 22 => 31 | 24 => 40 | 25 => 108 | 3 => 3 | 39 => 129 | 0 => 0 | 53 => 155 | 55 => 157 | 4 => 4 | 46 => 148 | 45 => 147 | 50 => 152 | 5 => 5 | 9 => 9 | 66 => 158 | 70 => 162 | 76 => 164 | 77 => 165 | n => n, fun | n => n⟩
theorem Tryz.hsortf : Go.Proofs.SlLaysF0.n6 Tryz.prog Tryz.hsortf_ren := {
  mixed := by kernel_rfl
  f6 := ⟨Tryz.f60.name, by decide, Tryz.func60.trans (congrArg some (by kernel_rfl))⟩
  f14 := ⟨Tryz.f72.name, by decide, Tryz.func72.trans (congrArg some (by kernel_rfl))⟩
  f15 := Tryz.func73.trans (congrArg some (by kernel_rfl))
  f20 := ⟨Tryz.f79.name, by decide, Tryz.func79.trans (congrArg some (by kernel_rfl))⟩
  f21 := ⟨Tryz.f80.name, by decide, Tryz.func80.trans (congrArg some (by kernel_rfl))⟩
  f22 := ⟨Tryz.f81.name, by decide, Tryz.func81.trans (congrArg some (by kernel_rfl))⟩
  f23 := ⟨Tryz.f82.name, by decide, Tryz.func82.trans (congrArg some (by kernel_rfl))⟩
  f24 := ⟨Tryz.f83.name, by decide, Tryz.func83.trans (congrArg some (by kernel_rfl))⟩
  f25 := ⟨Tryz.f84.name, by decide, Tryz.func84.trans (congrArg some (by kernel_rfl))⟩
  f26 := ⟨Tryz.f85.name, by decide, Tryz.func85.trans (congrArg some (by kernel_rfl))⟩
  f27 := ⟨Tryz.f86.name, by decide, Tryz.func86.trans (congrArg some (by kernel_rfl))⟩
  f28 := Tryz.func87.trans (congrArg some (by kernel_rfl))
  f29 := Tryz.func88.trans (congrArg some (by kernel_rfl))
  f46 := ⟨Tryz.f90.name, by decide, Tryz.func90.trans (congrArg some (by kernel_rfl))⟩
  f47 := Tryz.func91.trans (congrArg some (by kernel_rfl))
  f48 := Tryz.func92.trans (congrArg some (by kernel_rfl))
  f49 := ⟨Tryz.f93.name, by decide, Tryz.func93.trans (congrArg some (by kernel_rfl))⟩
  f50 := ⟨Tryz.f94.name, by decide, Tryz.func94.trans (congrArg some (by kernel_rfl))⟩
  f57 := ⟨Tryz.f95.name, by decide, Tryz.func95.trans (congrArg some (by kernel_rfl))⟩
  t0 := Tryz.underlying0
  a0 := Tryz.isAgg0
  z0 := Tryz.sizeOf0
  v0 := Tryz.zeroValue0
  t3 := Tryz.underlying3
  a3 := Tryz.isAgg3
  z3 := Tryz.sizeOf3
  v3 := Tryz.zeroValue3
  t4 := Tryz.underlying4
  a4 := Tryz.isAgg4
  z4 := Tryz.sizeOf4
  v4 := Tryz.zeroValue4
  t5 := Tryz.underlying5
  a5 := Tryz.isAgg5
  z5 := Tryz.sizeOf5
  v5 := Tryz.zeroValue5
  t9 := Tryz.underlying9
  a9 := Tryz.isAgg9
  z9 := Tryz.sizeOf9
  v9 := Tryz.zeroValue9
  t22 := Tryz.underlying31
  a22 := Tryz.isAgg31
  z22 := Tryz.sizeOf31
  v22 := Tryz.zeroValue31
  t25 := Tryz.underlying108
  a25 := Tryz.isAgg108
  z25 := Tryz.sizeOf108
  v25 := Tryz.zeroValue108
  t39 := Tryz.underlying129
  a39 := Tryz.isAgg129
  z39 := Tryz.sizeOf129
  v39 := Tryz.zeroValue129
  t45 := Tryz.underlying147
  a45 := Tryz.isAgg147
  z45 := Tryz.sizeOf147
  v45 := Tryz.zeroValue147
  t46 := Tryz.underlying148
  a46 := Tryz.isAgg148
  z46 := Tryz.sizeOf148
  v46 := Tryz.zeroValue148
  t50 := Tryz.underlying152
  a50 := Tryz.isAgg152
  z50 := Tryz.sizeOf152
  v50 := Tryz.zeroValue152
  t53 := Tryz.underlying155
  a53 := Tryz.isAgg155
  z53 := Tryz.sizeOf155
  v53 := Tryz.zeroValue155
  t55 := Tryz.underlying157
  a55 := Tryz.isAgg157
  z55 := Tryz.sizeOf157
  v55 := Tryz.zeroValue157
  t66 := Tryz.underlying158
  a66 := Tryz.isAgg158
  z66 := Tryz.sizeOf158
  v66 := Tryz.zeroValue158
  t70 := Tryz.underlying162
  a70 := Tryz.isAgg162
  z70 := Tryz.sizeOf162
  v70 := Tryz.zeroValue162
  t76 := Tryz.underlying164
  a76 := Tryz.isAgg164
  z76 := Tryz.sizeOf164
  v76 := Tryz.zeroValue164
  t77 := Tryz.underlying165
  a77 := Tryz.isAgg165
  z77 := Tryz.sizeOf165
  v77 := Tryz.zeroValue165 }

/-- A hash, with its length. -/
abbrev Hs := { l : List UInt8 // l.length = 32 }
instance : Inhabited Hs := ⟨⟨hz, rfl⟩⟩
def encH (x : Hs) : List Value := us (nmb x.1)
def cfH (x y : Hs) : Int := Lib.compareBytes x.1 y.1
theorem encH_length (x : Hs) : (encH x).length = 32 := by unfold encH; rw [usn_length, x.2]
theorem encH_one (x : Hs) : ∀ v ∈ encH x, v.oneCell' = true := fun v hv => by
  obtain ⟨y, _, rfl⟩ := List.mem_map.1 hv
  rfl
theorem ltH (x y : Hs) : ltOf cfH x y = Op.bytesLess x.1 y.1 := cmp_less x.1 y.1
theorem swoH : SWO (ltOf cfH) where
  irrefl x := by rw [ltH]; exact less_irrefl _
  trans x y z h k := by rw [ltH] at *; exact less_trans _ _ _ h k
  ntrans x y z h k := by
    rw [ltH] at *
    cases hb : Op.bytesLess x.1 z.1 with
    | false => rfl
    | true =>
      cases hc : Op.bytesLess y.1 x.1 with
      | true => have := less_trans _ _ _ hc hb; rw [k] at this; cases this
      | false => rw [less_total _ _ h hc] at hb; rw [k] at hb; cases hb
theorem lays_cmp (blk off size : Nat) (w : World) : CmpLays Tryz.prog 61 #[] encH 32 cfH blk off size w := fun m os dk _ x y => by
  have h := compare_to (sortWorldK encH 32 w blk off m dk os) x.1 y.1 x.2 y.2
  refine h.mono ?_
  rintro e w' ⟨he, q, hw⟩
  exact ⟨he, q, _, by rw [hw, Sort.alloc_eq_grow, Sort.alloc_eq_grow, Sort.grow_grow]; rfl⟩

theorem lift_H : ∀ E : List (List UInt8), H32 E → ∃ d : List Hs, d.map (·.1) = E
  | [], _ => ⟨[], rfl⟩
  | h :: E, hE => by
    obtain ⟨d, hd⟩ := lift_H E (fun x hx => hE x (List.mem_cons_of_mem _ hx))
    exact ⟨⟨h, hE h (List.mem_cons_self ..)⟩ :: d, by rw [List.map_cons, hd]⟩
theorem flat_fl (d : Array Hs) : (flatK encH 32 d).toList = fl (d.toList.map (·.1)) := by
  have hE : H32 (d.toList.map (·.1)) := fun x hx => by
    obtain ⟨y, _, rfl⟩ := List.mem_map.1 hx
    exact y.2
  refine List.ext_getElem? fun t => ?_
  by_cases ht : t < d.size * 32
  · have hi : t / 32 < d.size := by omega
    have hg := Sort.get_flatK encH 32 d t ht
    have hs : t < (flatK encH 32 d).size := by rw [Sort.size_flatK]; exact ht
    have e1 : (flatK encH 32 d).toList[t]? = some ((encH d[t / 32]!)[t % 32]!) := by
      rw [Array.getElem?_toList, Array.getElem?_eq_getElem hs, ← hg, getElem!_pos _ t hs]
    have hi2 : t / 32 < (d.toList.map (·.1)).length := by simpa using hi
    have e2 := fl_at hE (i := t / 32) (c := t % 32) hi2 (by omega)
    rw [show t / 32 * 32 + t % 32 = t from by omega] at e2
    have hd : d[t / 32]! = d[t / 32] := getElem!_pos d (t / 32) hi
    rw [e1, e2, hd]
    have hl : t % 32 < (encH d[t / 32]).length := by rw [encH_length]; omega
    rw [getElem!_pos (encH d[t / 32]) (t % 32) hl]
    simp only [List.getElem_map, Array.getElem_toList]
    exact (List.getElem?_eq_getElem hl).symm
  · rw [List.getElem?_eq_none (by rw [Array.length_toList, Sort.size_flatK]; omega), List.getElem?_eq_none (by rw [fl_length hE]; simp; omega)]

theorem put_row (F : Array Value) (C R : List Value) (h : F.size = C.length) : Sort.putCells id 0 F (C ++ R).toArray = (F.toList ++ R).toArray := by
  apply Array.ext_getElem?
  intro t
  unfold Sort.putCells
  rw [Array.getElem?_mapIdx, List.getElem?_toArray, List.getElem?_toArray]
  by_cases ht : t < F.size
  · rw [List.getElem?_append_left (by omega), List.getElem?_append_left (by simpa using ht), List.getElem?_eq_getElem (show t < C.length by omega)]
    simp [ht]
  · rw [List.getElem?_append_right (by omega), List.getElem?_append_right (by simp; omega), show F.toList.length = C.length from by simpa using h]
    generalize R[t - C.length]? = o
    cases o with
    | none => rfl
    | some v => rw [Option.map_some, if_neg (by omega)]

theorem grow_at (X : World) (os : Array Obj) (k : Nat) (hk : k < X.heap.size) : (grow X os).heap[k]? = X.heap[k]? := by
  show (X.heap ++ os)[k]? = _
  rw [Array.getElem?_append_left hk]
theorem putK_at (w : World) (n g : Nat) (d : Array Hs) (k : Nat) : (putRowK encH 32 (Sort.ahead w n) g 0 d).heap[k]? = if g = k then (w.heap[k]?).map (Sort.onCells (Sort.putCells id 0 (flatK encH 32 d))) else w.heap[k]? := by
  show (w.heap.modify g (Sort.onCells (Sort.putCells id 0 (flatK encH 32 d))))[k]? = _
  rw [Array.getElem?_modify]
theorem putK_size (w : World) (n g : Nat) (d : Array Hs) : (putRowK encH 32 (Sort.ahead w n) g 0 d).heap.size = w.heap.size := by
  show (w.heap.modify g (Sort.onCells (Sort.putCells id 0 (flatK encH 32 d)))).size = _
  rw [Array.size_modify]
theorem hsort_none (p : Option Addr) (cap : Nat) (W : World) : Calls Tryz.prog 60 #[.slice p 0 cap, .func (.func 61) #[] #[]] W fun e w' => e = .returned (.tuple #[]) ∧ w' = W := 
  AnyF.slices_SortFunc_none Tryz.hsortf p cap (.func (.func 61) #[] #[]) W
theorem hsort_to (w : World) (g cap : Nat) (E : List (List UInt8)) (hE : H32 E) (R : List Value) (hg : w.heap[g]? = some (.cells (fl E ++ R).toArray 40 (0, 0))) (hn : E.length < 4611686018427387904) :
    Calls Tryz.prog 60 #[.slice (some ⟨g, 0, none⟩) E.length cap, .func (.func 61) #[] #[]] w fun e w' => e = .returned (.tuple #[]) ∧
      ∃ E', H32 E' ∧ E'.length = E.length ∧ (∀ a, a ∈ E' ↔ a ∈ E) ∧ E'.Pairwise (fun a b => Op.bytesLess b a = false) ∧ w'.heap[g]? = some (.cells (fl E' ++ R).toArray 40 (0, 0)) ∧ Only (fun k => k = g) w w' := by
  have eg : ∀ args w, (callFunc 61 args).run Tryz.prog w = .ok (.enter 61 args) w := enters_of Tryz.func61 (by kernel_rfl) rfl
  obtain ⟨dl, hdl⟩ := lift_H E hE
  obtain ⟨d, hdm⟩ : ∃ d : Array Hs, d.toList.map (·.1) = E := ⟨dl.toArray, hdl⟩
  have hds : d.size = E.length := by rw [← hdm]; simp
  have hfl := flat_fl d
  rw [hdm] at hfl
  have hgl := (Array.getElem?_eq_some_iff.1 hg).1
  have hH : HoldsK encH 32 w g 0 d := fun t ht => by
    rw [Nat.zero_add]
    have hs : t < (fl E).length := by rw [← hfl]; simpa using ht
    constructor
    · rw [cell_of_row w g t _ _ _ hg, List.getElem?_toArray, List.getElem?_append_left hs, ← hfl, Array.getElem?_toList, getElem!_pos _ t ht]
      simp
    · simp [World.frozen?, hg]
  have hc := AnyQ.slices_SortFunc Tryz.hsortf 32 Tryz.isAgg40 Tryz.sizeOf40 encH encH_length encH_one cfH swoH 61 #[] g 0 cap d w eg (lays_cmp g 0 d.size w) hH hgl (by omega)
  rw [hds] at hc
  refine Calls.mono hc ?_
  rintro e w' ⟨he, d', n, os, hp, hso, rfl⟩
  refine ⟨he, d'.toList.map (·.1), ?_, ?_, ?_, ?_, ?_, ?_⟩
  · intro x hx
    obtain ⟨y, _, rfl⟩ := List.mem_map.1 hx
    exact y.2
  · rw [List.length_map, Array.length_toList, hp.1, hds]
  · intro a
    have hpm := hp.2.2
    have e1 : d'.extract 0 E.length = d' := by rw [← hds, ← hp.1]; exact Array.extract_size
    have e2 : d.extract 0 E.length = d := by rw [← hds]; exact Array.extract_size
    rw [e1, e2] at hpm
    rw [← hdm]
    exact (hpm.map (·.1)).mem_iff
  · rw [List.pairwise_iff_getElem]
    intro i j hi hj hij
    have hi' : i < d'.size := by simpa using hi
    have hj' : j < d'.size := by simpa using hj
    have h := hso i j (Nat.zero_le _) hij (by rw [← hds, ← hp.1]; exact hj')
    rw [getElem!_pos d' i hi', getElem!_pos d' j hj', ltH] at h
    simpa using h
  · show (grow (putRowK encH 32 (Sort.ahead w n) g 0 d') os).heap[g]? = _
    rw [grow_at _ _ _ (by rw [putK_size]; exact hgl), putK_at, if_pos rfl, hg]
    show some (Obj.cells (Sort.putCells id 0 (flatK encH 32 d') (fl E ++ R).toArray) _ _) = _
    rw [put_row _ _ _ (by rw [Sort.size_flatK, hp.1, hds, fl_length hE]), flat_fl]
  · refine ⟨rfl, rfl, rfl, ?_, fun k hk hn => ?_⟩
    · show _ ≤ ((putRowK encH 32 (Sort.ahead w n) g 0 d').heap ++ os).size
      rw [Array.size_append, putK_size]; omega
    · show (grow (putRowK encH 32 (Sort.ahead w n) g 0 d') os).heap[k]? = _
      rw [grow_at _ _ _ (by rw [putK_size]; exact hk), putK_at, if_neg (fun e => hn e.symm)]
end Go.Proofs.YthfkmfepeafgjaaGreatDoor
