/- slices.SortFunc over hashes: a permutation, ascending. Condition: the slice is within what a slice may take up. -/
import Derived.Test.YtgnagpohogiodaaHexSc
import Derived.Test.YtgnagpohogiodaaHexC
import Derived.Shelf.SlSortCmp.NoneTotal
namespace Go.Proofs.Ytgnagpohogiodaa
open Go.RowKit Go.Shelf
open Go.Sort (HoldsK putRowK flatK grow PermIn SortedIn SWO)
def Try.hsortf_ren : Go.Shelf.Ren := ⟨fun | 6 => 22 | 15 => 28 | 14 => 27 | 28 => 39 | 29 => 40 | 20 => 31 | 21 => 32 | 22 => 33 | 23 => 34 | 24 => 35 | 25 => 36 | 26 => 37 | 27 => 38 | 46 => 41 | 47 => 42 | 48 => 43 | 49 => 44 | 50 => 45 | 57 => 46 | n => n, fun | 22 => 36 | 24 => 23 | 25 => 48 | 3 => 3 | 39 => 44 | 0 => 0 | 53 => 64 | 55 => 66 | 4 => 4 | 46 => 57 | 45 => 56 | 50 => 61 | 5 => 5 | 9 => 9 | 66 => 67 | 70 => 71 | 76 => 73 | 77 => 74 | n => n, fun | n => n⟩
theorem Try.hsortf : Go.Proofs.SlLaysF0.n6 Try.prog Try.hsortf_ren := {
  mixed := by kernel_rfl
  f6 := ⟨Try.f22.name, by decide, Try.func22.trans (congrArg some (by kernel_rfl))⟩
  f14 := ⟨Try.f27.name, by decide, Try.func27.trans (congrArg some (by kernel_rfl))⟩
  f15 := Try.func28.trans (congrArg some (by kernel_rfl))
  f20 := ⟨Try.f31.name, by decide, Try.func31.trans (congrArg some (by kernel_rfl))⟩
  f21 := ⟨Try.f32.name, by decide, Try.func32.trans (congrArg some (by kernel_rfl))⟩
  f22 := ⟨Try.f33.name, by decide, Try.func33.trans (congrArg some (by kernel_rfl))⟩
  f23 := ⟨Try.f34.name, by decide, Try.func34.trans (congrArg some (by kernel_rfl))⟩
  f24 := ⟨Try.f35.name, by decide, Try.func35.trans (congrArg some (by kernel_rfl))⟩
  f25 := ⟨Try.f36.name, by decide, Try.func36.trans (congrArg some (by kernel_rfl))⟩
  f26 := ⟨Try.f37.name, by decide, Try.func37.trans (congrArg some (by kernel_rfl))⟩
  f27 := ⟨Try.f38.name, by decide, Try.func38.trans (congrArg some (by kernel_rfl))⟩
  f28 := Try.func39.trans (congrArg some (by kernel_rfl))
  f29 := Try.func40.trans (congrArg some (by kernel_rfl))
  f46 := ⟨Try.f41.name, by decide, Try.func41.trans (congrArg some (by kernel_rfl))⟩
  f47 := Try.func42.trans (congrArg some (by kernel_rfl))
  f48 := Try.func43.trans (congrArg some (by kernel_rfl))
  f49 := ⟨Try.f44.name, by decide, Try.func44.trans (congrArg some (by kernel_rfl))⟩
  f50 := ⟨Try.f45.name, by decide, Try.func45.trans (congrArg some (by kernel_rfl))⟩
  f57 := ⟨Try.f46.name, by decide, Try.func46.trans (congrArg some (by kernel_rfl))⟩
  t0 := Try.underlying0
  a0 := Try.isAgg0
  z0 := Try.sizeOf0
  v0 := Try.zeroValue0
  t3 := Try.underlying3
  a3 := Try.isAgg3
  z3 := Try.sizeOf3
  v3 := Try.zeroValue3
  t4 := Try.underlying4
  a4 := Try.isAgg4
  z4 := Try.sizeOf4
  v4 := Try.zeroValue4
  t5 := Try.underlying5
  a5 := Try.isAgg5
  z5 := Try.sizeOf5
  v5 := Try.zeroValue5
  t9 := Try.underlying9
  a9 := Try.isAgg9
  z9 := Try.sizeOf9
  v9 := Try.zeroValue9
  t22 := Try.underlying36
  a22 := Try.isAgg36
  z22 := Try.sizeOf36
  v22 := Try.zeroValue36
  t25 := Try.underlying48
  a25 := Try.isAgg48
  z25 := Try.sizeOf48
  v25 := Try.zeroValue48
  t39 := Try.underlying44
  a39 := Try.isAgg44
  z39 := Try.sizeOf44
  v39 := Try.zeroValue44
  t45 := Try.underlying56
  a45 := Try.isAgg56
  z45 := Try.sizeOf56
  v45 := Try.zeroValue56
  t46 := Try.underlying57
  a46 := Try.isAgg57
  z46 := Try.sizeOf57
  v46 := Try.zeroValue57
  t50 := Try.underlying61
  a50 := Try.isAgg61
  z50 := Try.sizeOf61
  v50 := Try.zeroValue61
  t53 := Try.underlying64
  a53 := Try.isAgg64
  z53 := Try.sizeOf64
  v53 := Try.zeroValue64
  t55 := Try.underlying66
  a55 := Try.isAgg66
  z55 := Try.sizeOf66
  v55 := Try.zeroValue66
  t66 := Try.underlying67
  a66 := Try.isAgg67
  z66 := Try.sizeOf67
  v66 := Try.zeroValue67
  t70 := Try.underlying71
  a70 := Try.isAgg71
  z70 := Try.sizeOf71
  v70 := Try.zeroValue71
  t76 := Try.underlying73
  a76 := Try.isAgg73
  z76 := Try.sizeOf73
  v76 := Try.zeroValue73
  t77 := Try.underlying74
  a77 := Try.isAgg74
  z77 := Try.sizeOf74
  v77 := Try.zeroValue74 }

/-- A hash, with its length. -/
abbrev Hs := { l : List UInt8 // l.length = 32 }
instance : Inhabited Hs := ⟨⟨hz, rfl⟩⟩
def encH (x : Hs) : List Value := us (nmb x.1)
def cfH (x y : Hs) : Int := Lib.compareBytes x.1 y.1
theorem encH_length (x : Hs) : (encH x).length = 32 := by unfold encH; rw [usn_length, x.2]
theorem encH_one (x : Hs) : ∀ v ∈ encH x, v.oneCell' = true := fun v hv => by
  obtain ⟨y, _, rfl⟩ := List.mem_map.1 hv
  rfl
theorem ltH (x y : Hs) : ltOf cfH x y = Op.bytesLess x.1 y.1 := cmp_less x.1 y.1
theorem swoH : SWO (ltOf cfH) where
  irrefl x := by rw [ltH]; exact less_irrefl _
  trans x y z h k := by rw [ltH] at *; exact less_trans _ _ _ h k
  ntrans x y z h k := by
    rw [ltH] at *
    cases hb : Op.bytesLess x.1 z.1 with
    | false => rfl
    | true =>
      cases hc : Op.bytesLess y.1 x.1 with
      | true => have := less_trans _ _ _ hc hb; rw [k] at this; cases this
      | false => rw [less_total _ _ h hc] at hb; rw [k] at hb; cases hb
theorem lays_cmp (blk off size : Nat) (w : World) : CmpLays Try.prog 20 #[] encH 32 cfH blk off size w := fun m os dk _ x y => by
  have h := compare_to (sortWorldK encH 32 w blk off m dk os) x.1 y.1 x.2 y.2
  refine h.mono ?_
  rintro e w' ⟨he, q, hw⟩
  exact ⟨he, q, _, by rw [hw, Sort.alloc_eq_grow, Sort.alloc_eq_grow, Sort.grow_grow]; rfl⟩

theorem lift_H : ∀ E : List (List UInt8), H32 E → ∃ d : List Hs, d.map (·.1) = E
  | [], _ => ⟨[], rfl⟩
  | h :: E, hE => by
    obtain ⟨d, hd⟩ := lift_H E (fun x hx => hE x (List.mem_cons_of_mem _ hx))
    exact ⟨⟨h, hE h (List.mem_cons_self ..)⟩ :: d, by rw [List.map_cons, hd]⟩
theorem flat_fl (d : Array Hs) : (flatK encH 32 d).toList = fl (d.toList.map (·.1)) := by
  have hE : H32 (d.toList.map (·.1)) := fun x hx => by
    obtain ⟨y, _, rfl⟩ := List.mem_map.1 hx
    exact y.2
  refine List.ext_getElem? fun t => ?_
  by_cases ht : t < d.size * 32
  · have hi : t / 32 < d.size := by omega
    have hg := Sort.get_flatK encH 32 d t ht
    have hs : t < (flatK encH 32 d).size := by rw [Sort.size_flatK]; exact ht
    have e1 : (flatK encH 32 d).toList[t]? = some ((encH d[t / 32]!)[t % 32]!) := by
      rw [Array.getElem?_toList, Array.getElem?_eq_getElem hs, ← hg, getElem!_pos _ t hs]
    have hi2 : t / 32 < (d.toList.map (·.1)).length := by simpa using hi
    have e2 := fl_at hE (i := t / 32) (c := t % 32) hi2 (by omega)
    rw [show t / 32 * 32 + t % 32 = t from by omega] at e2
    have hd : d[t / 32]! = d[t / 32] := getElem!_pos d (t / 32) hi
    rw [e1, e2, hd]
    have hl : t % 32 < (encH d[t / 32]).length := by rw [encH_length]; omega
    rw [getElem!_pos (encH d[t / 32]) (t % 32) hl]
    simp only [List.getElem_map, Array.getElem_toList]
    exact (List.getElem?_eq_getElem hl).symm
  · rw [List.getElem?_eq_none (by rw [Array.length_toList, Sort.size_flatK]; omega), List.getElem?_eq_none (by rw [fl_length hE]; simp; omega)]

theorem put_row (F : Array Value) (C R : List Value) (h : F.size = C.length) : Sort.putCells id 0 F (C ++ R).toArray = (F.toList ++ R).toArray := by
  apply Array.ext_getElem?
  intro t
  unfold Sort.putCells
  rw [Array.getElem?_mapIdx, List.getElem?_toArray, List.getElem?_toArray]
  by_cases ht : t < F.size
  · rw [List.getElem?_append_left (by omega), List.getElem?_append_left (by simpa using ht), List.getElem?_eq_getElem (show t < C.length by omega)]
    simp [ht]
  · rw [List.getElem?_append_right (by omega), List.getElem?_append_right (by simp; omega), show F.toList.length = C.length from by simpa using h]
    generalize R[t - C.length]? = o
    cases o with
    | none => rfl
    | some v => rw [Option.map_some, if_neg (by omega)]

theorem grow_at (X : World) (os : Array Obj) (k : Nat) (hk : k < X.heap.size) : (grow X os).heap[k]? = X.heap[k]? := by
  show (X.heap ++ os)[k]? = _
  rw [Array.getElem?_append_left hk]
theorem putK_at (w : World) (n g : Nat) (d : Array Hs) (k : Nat) : (putRowK encH 32 (Sort.ahead w n) g 0 d).heap[k]? = if g = k then (w.heap[k]?).map (Sort.onCells (Sort.putCells id 0 (flatK encH 32 d))) else w.heap[k]? := by
  show (w.heap.modify g (Sort.onCells (Sort.putCells id 0 (flatK encH 32 d))))[k]? = _
  rw [Array.getElem?_modify]
theorem putK_size (w : World) (n g : Nat) (d : Array Hs) : (putRowK encH 32 (Sort.ahead w n) g 0 d).heap.size = w.heap.size := by
  show (w.heap.modify g (Sort.onCells (Sort.putCells id 0 (flatK encH 32 d)))).size = _
  rw [Array.size_modify]
theorem hsort_to (w : World) (g cap : Nat) (E : List (List UInt8)) (hE : H32 E) (R : List Value) (hg : w.heap[g]? = some (.cells (fl E ++ R).toArray 23 (0, 0))) (hn : E.length < 4611686018427387904) :
    Calls Try.prog 22 #[.slice (some ⟨g, 0, none⟩) E.length cap, .func (.func 20) #[] #[]] w fun e w' => e = .returned (.tuple #[]) ∧
      ∃ E', H32 E' ∧ E'.length = E.length ∧ (∀ a, a ∈ E' ↔ a ∈ E) ∧ E'.Pairwise (fun a b => Op.bytesLess b a = false) ∧ w'.heap[g]? = some (.cells (fl E' ++ R).toArray 23 (0, 0)) ∧ Only (fun k => k = g) w w' := by
  have eg : ∀ args w, (callFunc 20 args).run Try.prog w = .ok (.enter 20 args) w := enters_of Try.func20 (by kernel_rfl) rfl
  obtain ⟨dl, hdl⟩ := lift_H E hE
  obtain ⟨d, hdm⟩ : ∃ d : Array Hs, d.toList.map (·.1) = E := ⟨dl.toArray, hdl⟩
  have hds : d.size = E.length := by rw [← hdm]; simp
  have hfl := flat_fl d
  rw [hdm] at hfl
  have hgl := (Array.getElem?_eq_some_iff.1 hg).1
  have hH : HoldsK encH 32 w g 0 d := fun t ht => by
    rw [Nat.zero_add]
    have hs : t < (fl E).length := by rw [← hfl]; simpa using ht
    constructor
    · rw [cell_of_row w g t _ _ _ hg, List.getElem?_toArray, List.getElem?_append_left hs, ← hfl, Array.getElem?_toList, getElem!_pos _ t ht]
      simp
    · simp [World.frozen?, hg]
  have hc := AnyQ.slices_SortFunc Try.hsortf 32 Try.isAgg23 Try.sizeOf23 encH encH_length encH_one cfH swoH 20 #[] g 0 cap d w eg (lays_cmp g 0 d.size w) hH hgl (by omega)
  rw [hds] at hc
  refine Calls.mono hc ?_
  rintro e w' ⟨he, d', n, os, hp, hso, rfl⟩
  refine ⟨he, d'.toList.map (·.1), ?_, ?_, ?_, ?_, ?_, ?_⟩
  · intro x hx
    obtain ⟨y, _, rfl⟩ := List.mem_map.1 hx
    exact y.2
  · rw [List.length_map, Array.length_toList, hp.1, hds]
  · intro a
    have hpm := hp.2.2
    have e1 : d'.extract 0 E.length = d' := by rw [← hds, ← hp.1]; exact Array.extract_size
    have e2 : d.extract 0 E.length = d := by rw [← hds]; exact Array.extract_size
    rw [e1, e2] at hpm
    rw [← hdm]
    exact (hpm.map (·.1)).mem_iff
  · rw [List.pairwise_iff_getElem]
    intro i j hi hj hij
    have hi' : i < d'.size := by simpa using hi
    have hj' : j < d'.size := by simpa using hj
    have h := hso i j (Nat.zero_le _) hij (by rw [← hds, ← hp.1]; exact hj')
    rw [getElem!_pos d' i hi', getElem!_pos d' j hj', ltH] at h
    simpa using h
  · show (grow (putRowK encH 32 (Sort.ahead w n) g 0 d') os).heap[g]? = _
    rw [grow_at _ _ _ (by rw [putK_size]; exact hgl), putK_at, if_pos rfl, hg]
    show some (Obj.cells (Sort.putCells id 0 (flatK encH 32 d') (fl E ++ R).toArray) _ _) = _
    rw [put_row _ _ _ (by rw [Sort.size_flatK, hp.1, hds, fl_length hE]), flat_fl]
  · refine ⟨rfl, rfl, rfl, ?_, fun k hk hn => ?_⟩
    · show _ ≤ ((putRowK encH 32 (Sort.ahead w n) g 0 d').heap ++ os).size
      rw [Array.size_append, putK_size]; omega
    · show (grow (putRowK encH 32 (Sort.ahead w n) g 0 d') os).heap[k]? = _
      rw [grow_at _ _ _ (by rw [putK_size]; exact hk), putK_at, if_neg (fun e => hn e.symm)]
end Go.Proofs.Ytgnagpohogiodaa
