/- slices.SortFunc over hashes: a permutation, ascending. Condition: the slice is within what a slice may take up. -/
import Derived.Test.YtakbdnkodnlkdaaDoorHexSk
import Derived.Test.YtakbdnkodnlkdaaDoorHexE
import Derived.Shelf.SlSortCmp.NoneTotal
namespace Go.Proofs.YtakbdnkodnlkdaaDoor
open Go.RowKit Go.Shelf
open Go.Sort (HoldsK putRowK flatK grow PermIn SortedIn SWO)
def Tryd.hsortf_ren : Go.Shelf.Ren := ⟨fun | 6 => 57 | 15 => 67 | 14 => 66 | 28 => 77 | 29 => 78 | 20 => 69 | 21 => 70 | 22 => 71 | 23 => 72 | 24 => 73 | 25 => 74 | 26 => 75 | 27 => 76 | 46 => 80 | 47 => 81 | 48 => 82 | 49 => 83 | 50 => 84 | 57 => 85 | n => n, fun | 22 => 31 | 24 => 26 | 25 => 112 | 3 => 3 | 39 => 130 | 0 => 0 | 53 => 142 | 55 => 144 | 4 => 4 | 46 => 135 | 45 => 134 | 50 => 139 | 5 => 5 | 9 => 9 | 66 => 145 | 70 => 149 | 76 => 151 | 77 => 152 | n => n, fun | n => n⟩
theorem Tryd.hsortf : Go.Proofs.SlLaysF0.n6 Tryd.prog Tryd.hsortf_ren := {
  mixed := by kernel_rfl
  f6 := ⟨Tryd.f57.name, by decide, Tryd.func57.trans (congrArg some (by kernel_rfl))⟩
  f14 := ⟨Tryd.f66.name, by decide, Tryd.func66.trans (congrArg some (by kernel_rfl))⟩
  f15 := Tryd.func67.trans (congrArg some (by kernel_rfl))
  f20 := ⟨Tryd.f69.name, by decide, Tryd.func69.trans (congrArg some (by kernel_rfl))⟩
  f21 := ⟨Tryd.f70.name, by decide, Tryd.func70.trans (congrArg some (by kernel_rfl))⟩
  f22 := ⟨Tryd.f71.name, by decide, Tryd.func71.trans (congrArg some (by kernel_rfl))⟩
  f23 := ⟨Tryd.f72.name, by decide, Tryd.func72.trans (congrArg some (by kernel_rfl))⟩
  f24 := ⟨Tryd.f73.name, by decide, Tryd.func73.trans (congrArg some (by kernel_rfl))⟩
  f25 := ⟨Tryd.f74.name, by decide, Tryd.func74.trans (congrArg some (by kernel_rfl))⟩
  f26 := ⟨Tryd.f75.name, by decide, Tryd.func75.trans (congrArg some (by kernel_rfl))⟩
  f27 := ⟨Tryd.f76.name, by decide, Tryd.func76.trans (congrArg some (by kernel_rfl))⟩
  f28 := Tryd.func77.trans (congrArg some (by kernel_rfl))
  f29 := Tryd.func78.trans (congrArg some (by kernel_rfl))
  f46 := ⟨Tryd.f80.name, by decide, Tryd.func80.trans (congrArg some (by kernel_rfl))⟩
  f47 := Tryd.func81.trans (congrArg some (by kernel_rfl))
  f48 := Tryd.func82.trans (congrArg some (by kernel_rfl))
  f49 := ⟨Tryd.f83.name, by decide, Tryd.func83.trans (congrArg some (by kernel_rfl))⟩
  f50 := ⟨Tryd.f84.name, by decide, Tryd.func84.trans (congrArg some (by kernel_rfl))⟩
  f57 := ⟨Tryd.f85.name, by decide, Tryd.func85.trans (congrArg some (by kernel_rfl))⟩
  t0 := Tryd.underlying0
  a0 := Tryd.isAgg0
  z0 := Tryd.sizeOf0
  v0 := Tryd.zeroValue0
  t3 := Tryd.underlying3
  a3 := Tryd.isAgg3
  z3 := Tryd.sizeOf3
  v3 := Tryd.zeroValue3
  t4 := Tryd.underlying4
  a4 := Tryd.isAgg4
  z4 := Tryd.sizeOf4
  v4 := Tryd.zeroValue4
  t5 := Tryd.underlying5
  a5 := Tryd.isAgg5
  z5 := Tryd.sizeOf5
  v5 := Tryd.zeroValue5
  t9 := Tryd.underlying9
  a9 := Tryd.isAgg9
  z9 := Tryd.sizeOf9
  v9 := Tryd.zeroValue9
  t22 := Tryd.underlying31
  a22 := Tryd.isAgg31
  z22 := Tryd.sizeOf31
  v22 := Tryd.zeroValue31
  t25 := Tryd.underlying112
  a25 := Tryd.isAgg112
  z25 := Tryd.sizeOf112
  v25 := Tryd.zeroValue112
  t39 := Tryd.underlying130
  a39 := Tryd.isAgg130
  z39 := Tryd.sizeOf130
  v39 := Tryd.zeroValue130
  t45 := Tryd.underlying134
  a45 := Tryd.isAgg134
  z45 := Tryd.sizeOf134
  v45 := Tryd.zeroValue134
  t46 := Tryd.underlying135
  a46 := Tryd.isAgg135
  z46 := Tryd.sizeOf135
  v46 := Tryd.zeroValue135
  t50 := Tryd.underlying139
  a50 := Tryd.isAgg139
  z50 := Tryd.sizeOf139
  v50 := Tryd.zeroValue139
  t53 := Tryd.underlying142
  a53 := Tryd.isAgg142
  z53 := Tryd.sizeOf142
  v53 := Tryd.zeroValue142
  t55 := Tryd.underlying144
  a55 := Tryd.isAgg144
  z55 := Tryd.sizeOf144
  v55 := Tryd.zeroValue144
  t66 := Tryd.underlying145
  a66 := Tryd.isAgg145
  z66 := Tryd.sizeOf145
  v66 := Tryd.zeroValue145
  t70 := Tryd.underlying149
  a70 := Tryd.isAgg149
  z70 := Tryd.sizeOf149
  v70 := Tryd.zeroValue149
  t76 := Tryd.underlying151
  a76 := Tryd.isAgg151
  z76 := Tryd.sizeOf151
  v76 := Tryd.zeroValue151
  t77 := Tryd.underlying152
  a77 := Tryd.isAgg152
  z77 := Tryd.sizeOf152
  v77 := Tryd.zeroValue152 }

/-- A hash, with its length. -/
abbrev Hs := { l : List UInt8 // l.length = 32 }
instance : Inhabited Hs := ⟨⟨hz, rfl⟩⟩
def encH (x : Hs) : List Value := us (nmb x.1)
def cfH (x y : Hs) : Int := Lib.compareBytes x.1 y.1
theorem encH_length (x : Hs) : (encH x).length = 32 := by unfold encH; rw [usn_length, x.2]
theorem encH_one (x : Hs) : ∀ v ∈ encH x, v.oneCell' = true := fun v hv => by
  obtain ⟨y, _, rfl⟩ := List.mem_map.1 hv
  rfl
theorem ltH (x y : Hs) : ltOf cfH x y = Op.bytesLess x.1 y.1 := cmp_less x.1 y.1
theorem swoH : SWO (ltOf cfH) where
  irrefl x := by rw [ltH]; exact less_irrefl _
  trans x y z h k := by rw [ltH] at *; exact less_trans _ _ _ h k
  ntrans x y z h k := by
    rw [ltH] at *
    cases hb : Op.bytesLess x.1 z.1 with
    | false => rfl
    | true =>
      cases hc : Op.bytesLess y.1 x.1 with
      | true => have := less_trans _ _ _ hc hb; rw [k] at this; cases this
      | false => rw [less_total _ _ h hc] at hb; rw [k] at hb; cases hb
theorem lays_cmp (blk off size : Nat) (w : World) : CmpLays Tryd.prog 58 #[] encH 32 cfH blk off size w := fun m os dk _ x y => by
  have h := compare_to (sortWorldK encH 32 w blk off m dk os) x.1 y.1 x.2 y.2
  refine h.mono ?_
  rintro e w' ⟨he, q, hw⟩
  exact ⟨he, q, _, by rw [hw, Sort.alloc_eq_grow, Sort.alloc_eq_grow, Sort.grow_grow]; rfl⟩

theorem lift_H : ∀ E : List (List UInt8), H32 E → ∃ d : List Hs, d.map (·.1) = E
  | [], _ => ⟨[], rfl⟩
  | h :: E, hE => by
    obtain ⟨d, hd⟩ := lift_H E (fun x hx => hE x (List.mem_cons_of_mem _ hx))
    exact ⟨⟨h, hE h (List.mem_cons_self ..)⟩ :: d, by rw [List.map_cons, hd]⟩
theorem flat_fl (d : Array Hs) : (flatK encH 32 d).toList = fl (d.toList.map (·.1)) := by
  have hE : H32 (d.toList.map (·.1)) := fun x hx => by
    obtain ⟨y, _, rfl⟩ := List.mem_map.1 hx
    exact y.2
  refine List.ext_getElem? fun t => ?_
  by_cases ht : t < d.size * 32
  · have hi : t / 32 < d.size := by omega
    have hg := Sort.get_flatK encH 32 d t ht
    have hs : t < (flatK encH 32 d).size := by rw [Sort.size_flatK]; exact ht
    have e1 : (flatK encH 32 d).toList[t]? = some ((encH d[t / 32]!)[t % 32]!) := by
      rw [Array.getElem?_toList, Array.getElem?_eq_getElem hs, ← hg, getElem!_pos _ t hs]
    have hi2 : t / 32 < (d.toList.map (·.1)).length := by simpa using hi
    have e2 := fl_at hE (i := t / 32) (c := t % 32) hi2 (by omega)
    rw [show t / 32 * 32 + t % 32 = t from by omega] at e2
    have hd : d[t / 32]! = d[t / 32] := getElem!_pos d (t / 32) hi
    rw [e1, e2, hd]
    have hl : t % 32 < (encH d[t / 32]).length := by rw [encH_length]; omega
    rw [getElem!_pos (encH d[t / 32]) (t % 32) hl]
    simp only [List.getElem_map, Array.getElem_toList]
    exact (List.getElem?_eq_getElem hl).symm
  · rw [List.getElem?_eq_none (by rw [Array.length_toList, Sort.size_flatK]; omega), List.getElem?_eq_none (by rw [fl_length hE]; simp; omega)]

theorem put_row (F : Array Value) (C R : List Value) (h : F.size = C.length) : Sort.putCells id 0 F (C ++ R).toArray = (F.toList ++ R).toArray := by
  apply Array.ext_getElem?
  intro t
  unfold Sort.putCells
  rw [Array.getElem?_mapIdx, List.getElem?_toArray, List.getElem?_toArray]
  by_cases ht : t < F.size
  · rw [List.getElem?_append_left (by omega), List.getElem?_append_left (by simpa using ht), List.getElem?_eq_getElem (show t < C.length by omega)]
    simp [ht]
  · rw [List.getElem?_append_right (by omega), List.getElem?_append_right (by simp; omega), show F.toList.length = C.length from by simpa using h]
    generalize R[t - C.length]? = o
    cases o with
    | none => rfl
    | some v => rw [Option.map_some, if_neg (by omega)]

theorem grow_at (X : World) (os : Array Obj) (k : Nat) (hk : k < X.heap.size) : (grow X os).heap[k]? = X.heap[k]? := by
  show (X.heap ++ os)[k]? = _
  rw [Array.getElem?_append_left hk]
theorem putK_at (w : World) (n g : Nat) (d : Array Hs) (k : Nat) : (putRowK encH 32 (Sort.ahead w n) g 0 d).heap[k]? = if g = k then (w.heap[k]?).map (Sort.onCells (Sort.putCells id 0 (flatK encH 32 d))) else w.heap[k]? := by
  show (w.heap.modify g (Sort.onCells (Sort.putCells id 0 (flatK encH 32 d))))[k]? = _
  rw [Array.getElem?_modify]
theorem putK_size (w : World) (n g : Nat) (d : Array Hs) : (putRowK encH 32 (Sort.ahead w n) g 0 d).heap.size = w.heap.size := by
  show (w.heap.modify g (Sort.onCells (Sort.putCells id 0 (flatK encH 32 d)))).size = _
  rw [Array.size_modify]
theorem hsort_none (p : Option Addr) (cap : Nat) (W : World) : Calls Tryd.prog 57 #[.slice p 0 cap, .func (.func 58) #[] #[]] W fun e w' => e = .returned (.tuple #[]) ∧ w' = W := 
  AnyF.slices_SortFunc_none Tryd.hsortf p cap (.func (.func 58) #[] #[]) W
theorem hsort_to (w : World) (g cap : Nat) (E : List (List UInt8)) (hE : H32 E) (R : List Value) (hg : w.heap[g]? = some (.cells (fl E ++ R).toArray 26 (0, 0))) (hn : E.length < 4611686018427387904) :
    Calls Tryd.prog 57 #[.slice (some ⟨g, 0, none⟩) E.length cap, .func (.func 58) #[] #[]] w fun e w' => e = .returned (.tuple #[]) ∧
      ∃ E', H32 E' ∧ E'.length = E.length ∧ (∀ a, a ∈ E' ↔ a ∈ E) ∧ E'.Pairwise (fun a b => Op.bytesLess b a = false) ∧ w'.heap[g]? = some (.cells (fl E' ++ R).toArray 26 (0, 0)) ∧ Only (fun k => k = g) w w' := by
  have eg : ∀ args w, (callFunc 58 args).run Tryd.prog w = .ok (.enter 58 args) w := enters_of Tryd.func58 (by kernel_rfl) rfl
  obtain ⟨dl, hdl⟩ := lift_H E hE
  obtain ⟨d, hdm⟩ : ∃ d : Array Hs, d.toList.map (·.1) = E := ⟨dl.toArray, hdl⟩
  have hds : d.size = E.length := by rw [← hdm]; simp
  have hfl := flat_fl d
  rw [hdm] at hfl
  have hgl := (Array.getElem?_eq_some_iff.1 hg).1
  have hH : HoldsK encH 32 w g 0 d := fun t ht => by
    rw [Nat.zero_add]
    have hs : t < (fl E).length := by rw [← hfl]; simpa using ht
    constructor
    · rw [cell_of_row w g t _ _ _ hg, List.getElem?_toArray, List.getElem?_append_left hs, ← hfl, Array.getElem?_toList, getElem!_pos _ t ht]
      simp
    · simp [World.frozen?, hg]
  have hc := AnyQ.slices_SortFunc Tryd.hsortf 32 Tryd.isAgg26 Tryd.sizeOf26 encH encH_length encH_one cfH swoH 58 #[] g 0 cap d w eg (lays_cmp g 0 d.size w) hH hgl (by omega)
  rw [hds] at hc
  refine Calls.mono hc ?_
  rintro e w' ⟨he, d', n, os, hp, hso, rfl⟩
  refine ⟨he, d'.toList.map (·.1), ?_, ?_, ?_, ?_, ?_, ?_⟩
  · intro x hx
    obtain ⟨y, _, rfl⟩ := List.mem_map.1 hx
    exact y.2
  · rw [List.length_map, Array.length_toList, hp.1, hds]
  · intro a
    have hpm := hp.2.2
    have e1 : d'.extract 0 E.length = d' := by rw [← hds, ← hp.1]; exact Array.extract_size
    have e2 : d.extract 0 E.length = d := by rw [← hds]; exact Array.extract_size
    rw [e1, e2] at hpm
    rw [← hdm]
    exact (hpm.map (·.1)).mem_iff
  · rw [List.pairwise_iff_getElem]
    intro i j hi hj hij
    have hi' : i < d'.size := by simpa using hi
    have hj' : j < d'.size := by simpa using hj
    have h := hso i j (Nat.zero_le _) hij (by rw [← hds, ← hp.1]; exact hj')
    rw [getElem!_pos d' i hi', getElem!_pos d' j hj', ltH] at h
    simpa using h
  · show (grow (putRowK encH 32 (Sort.ahead w n) g 0 d') os).heap[g]? = _
    rw [grow_at _ _ _ (by rw [putK_size]; exact hgl), putK_at, if_pos rfl, hg]
    show some (Obj.cells (Sort.putCells id 0 (flatK encH 32 d') (fl E ++ R).toArray) _ _) = _
    rw [put_row _ _ _ (by rw [Sort.size_flatK, hp.1, hds, fl_length hE]), flat_fl]
  · refine ⟨rfl, rfl, rfl, ?_, fun k hk hn => ?_⟩
    · show _ ≤ ((putRowK encH 32 (Sort.ahead w n) g 0 d').heap ++ os).size
      rw [Array.size_append, putK_size]; omega
    · show (grow (putRowK encH 32 (Sort.ahead w n) g 0 d') os).heap[k]? = _
      rw [grow_at _ _ _ (by rw [putK_size]; exact hk), putK_at, if_neg (fun e => hn e.symm)]
end Go.Proofs.YtakbdnkodnlkdaaDoor
