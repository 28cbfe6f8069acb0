/- append of a span; slices.SortFunc over spans. Conditions: no more than a million spans. -/
import Derived.Test.YtpjfgkjhhmfhkaaSpnR
import Derived.Shelf.SlSortCmp.NoneTotal
namespace Go.Proofs.Ytpjfgkjhhmfhkaa
open Go.RowKit Go.Shelf
open Go.Sort (HoldsK putRowK flatK grow PermIn SortedIn SWO)
def Try.ssortf_ren : Go.Shelf.Ren := ⟨fun | 6 => 53 | 15 => 59 | 14 => 58 | 28 => 69 | 29 => 70 | 20 => 61 | 21 => 62 | 22 => 63 | 23 => 64 | 24 => 65 | 25 => 66 | 26 => 67 | 27 => 68 | 46 => 71 | 47 => 72 | 48 => 73 | 49 => 74 | 50 => 75 | 57 => 76 | n => n, fun | 22 => 24 | 24 => 23 | 25 => 62 | 3 => 3 | 39 => 67 | 0 => 0 | 53 => 77 | 55 => 49 | 4 => 4 | 46 => 71 | 45 => 70 | 50 => 27 | 5 => 5 | 9 => 9 | 66 => 79 | 70 => 83 | 76 => 85 | 77 => 86 | n => n, fun | n => n⟩
theorem Try.ssortf : Go.Proofs.SlLaysF0.n6 Try.prog Try.ssortf_ren := {
  mixed := by kernel_rfl
  f6 := ⟨Try.f53.name, by decide, Try.func53.trans (congrArg some (by kernel_rfl))⟩
  f14 := ⟨Try.f58.name, by decide, Try.func58.trans (congrArg some (by kernel_rfl))⟩
  f15 := Try.func59.trans (congrArg some (by kernel_rfl))
  f20 := ⟨Try.f61.name, by decide, Try.func61.trans (congrArg some (by kernel_rfl))⟩
  f21 := ⟨Try.f62.name, by decide, Try.func62.trans (congrArg some (by kernel_rfl))⟩
  f22 := ⟨Try.f63.name, by decide, Try.func63.trans (congrArg some (by kernel_rfl))⟩
  f23 := ⟨Try.f64.name, by decide, Try.func64.trans (congrArg some (by kernel_rfl))⟩
  f24 := ⟨Try.f65.name, by decide, Try.func65.trans (congrArg some (by kernel_rfl))⟩
  f25 := ⟨Try.f66.name, by decide, Try.func66.trans (congrArg some (by kernel_rfl))⟩
  f26 := ⟨Try.f67.name, by decide, Try.func67.trans (congrArg some (by kernel_rfl))⟩
  f27 := ⟨Try.f68.name, by decide, Try.func68.trans (congrArg some (by kernel_rfl))⟩
  f28 := Try.func69.trans (congrArg some (by kernel_rfl))
  f29 := Try.func70.trans (congrArg some (by kernel_rfl))
  f46 := ⟨Try.f71.name, by decide, Try.func71.trans (congrArg some (by kernel_rfl))⟩
  f47 := Try.func72.trans (congrArg some (by kernel_rfl))
  f48 := Try.func73.trans (congrArg some (by kernel_rfl))
  f49 := ⟨Try.f74.name, by decide, Try.func74.trans (congrArg some (by kernel_rfl))⟩
  f50 := ⟨Try.f75.name, by decide, Try.func75.trans (congrArg some (by kernel_rfl))⟩
  f57 := ⟨Try.f76.name, by decide, Try.func76.trans (congrArg some (by kernel_rfl))⟩
  t0 := Try.underlying0
  a0 := Try.isAgg0
  z0 := Try.sizeOf0
  v0 := Try.zeroValue0
  t3 := Try.underlying3
  a3 := Try.isAgg3
  z3 := Try.sizeOf3
  v3 := Try.zeroValue3
  t4 := Try.underlying4
  a4 := Try.isAgg4
  z4 := Try.sizeOf4
  v4 := Try.zeroValue4
  t5 := Try.underlying5
  a5 := Try.isAgg5
  z5 := Try.sizeOf5
  v5 := Try.zeroValue5
  t9 := Try.underlying9
  a9 := Try.isAgg9
  z9 := Try.sizeOf9
  v9 := Try.zeroValue9
  t22 := Try.underlying24
  a22 := Try.isAgg24
  z22 := Try.sizeOf24
  v22 := Try.zeroValue24
  t25 := Try.underlying62
  a25 := Try.isAgg62
  z25 := Try.sizeOf62
  v25 := Try.zeroValue62
  t39 := Try.underlying67
  a39 := Try.isAgg67
  z39 := Try.sizeOf67
  v39 := Try.zeroValue67
  t45 := Try.underlying70
  a45 := Try.isAgg70
  z45 := Try.sizeOf70
  v45 := Try.zeroValue70
  t46 := Try.underlying71
  a46 := Try.isAgg71
  z46 := Try.sizeOf71
  v46 := Try.zeroValue71
  t50 := Try.underlying27
  a50 := Try.isAgg27
  z50 := Try.sizeOf27
  v50 := Try.zeroValue27
  t53 := Try.underlying77
  a53 := Try.isAgg77
  z53 := Try.sizeOf77
  v53 := Try.zeroValue77
  t55 := Try.underlying49
  a55 := Try.isAgg49
  z55 := Try.sizeOf49
  v55 := Try.zeroValue49
  t66 := Try.underlying79
  a66 := Try.isAgg79
  z66 := Try.sizeOf79
  v66 := Try.zeroValue79
  t70 := Try.underlying83
  a70 := Try.isAgg83
  z70 := Try.sizeOf83
  v70 := Try.zeroValue83
  t76 := Try.underlying85
  a76 := Try.isAgg85
  z76 := Try.sizeOf85
  v76 := Try.zeroValue85
  t77 := Try.underlying86
  a77 := Try.isAgg86
  z77 := Try.sizeOf86
  v77 := Try.zeroValue86 }

theorem SOwn.shape {w : World} {B : Nat} {v : Value} {l : List Sp} (h : SOwn w B v l) : ∃ p c, v = .slice p l.length c := h.seen.form
theorem SOwn.nil (w : World) (B : Nat) : SOwn w B (.slice none 0 0) [] := World.ownsRow_nil ..
theorem SOwn.kept {w w' : World} {B : Nat} {v : Value} {l : List Sp} {S : Nat → Prop} (h : SOwn w B v l) (ho : Only S w w') (hS : ∀ k, v.ownBlock = some k → ¬ S k) : SOwn w' B v l := by
  refine ⟨h.1, ?_⟩
  rcases h.2 with h1 | ⟨g, cap, cur, rfl, h2, hg, h3⟩
  · exact .inl h1
  · exact .inr ⟨g, cap, cur, rfl, h2, (ho.block g (Array.getElem?_eq_some_iff.1 hg).1 (hS g rfl)).trans hg, h3⟩
theorem SOwn.mono {w : World} {B B' : Nat} {v : Value} {l : List Sp} (h : SOwn w B v l) (hB : B' ≤ B) : SOwn w B' v l := by
  refine ⟨h.1, ?_⟩
  rcases h.2 with h1 | ⟨g, cap, cur, h1, h2, h3⟩
  · exact .inl h1
  · exact .inr ⟨g, cap, cur, h1, Nat.le_trans hB h2, h3⟩
theorem SOwn.below {w w' : World} {B : Nat} {v : Value} {l : List Sp} (h : SOwn w B v l) (ho : Only (fun j => v.ownBlock = some j) w w') (hB : B ≤ w.heap.size) : Below B w w' := ho.below hB (fun k hk => (h.lt k hk).1)
theorem span_fits {n : Nat} (h : n ≤ 1000000) : n + 1 ≤ maxLen ∧ (n + 1) * 16 ≤ 140737488355328 := by unfold maxLen; omega
section
variable {ops : Array Oper} {rest : List Oper} {a : Act} {Q : Exit → Act → World → Prop} {o : Oper} {w : World} {K : Act → World → Prop} {X : Prop}
/-- append(v, s): behind the making of the slice of s. -/
theorem push_span (hgd : o.guard = none) (s x : Operand) (ho : o.op = .call { callee := .builtin .append, args := #[s, x], argTypes := #[24, 24] })
    (y : Sp) (B : Nat) (v : Value) (l : List Sp) (hs : a.eval s = v) (hown : SOwn w B v l) (N : Nat) (hN : w.heap.size = N) (hx : a.eval x = .slice (some ⟨N, 0, none⟩) 1 1) (hl : l.length ≤ 1000000) (hB : B ≤ w.heap.size)
    (h : ∀ p' c' w', SOwn w' B (.slice p' (l.length + 1) c') (l ++ [y]) → Only (fun j => v.ownBlock = some j) w w' → (∀ j, (Value.slice p' (l.length + 1) c').ownBlock = some j → v.ownBlock = some j ∨ w.heap.size ≤ j) → Below B w w' → wpList Try.prog ops Q rest (a.put o.dst (.slice p' (l.length + 1) c')) w') :
    wpList Try.prog ops Q (o :: rest) a (w.alloc (.cells #[.int .i64 y.1, .int .i64 y.2] 23)) := by
  subst hN
  obtain ⟨i0, hi0, hz0, hz1, hz2⟩ := info_parts spinfo
  have hf := span_fits hl
  refine wpList_append_lies _ hgd s x _ ho B 23 i0 _ 2 16 Try.underlying24 hi0 hz0 hz1 hz2 rfl (by omega) v l.length (sps l) hs (hown.alloc _) ⟨w.heap.size, 0, none⟩ 1 1 [.int .i64 y.1, .int .i64 y.2] hx rfl (World.news_of_block (cs := #[_, _]) (t := 23) (fr := (0, 0)) (heap_alloc_new w _)) (by simp [Value.oneCell']) (by decide) hf.1 hf.2 (by simp; omega) (w.heap.size + 1) (by simp) ?_
  intro g cap w' own grow hat _
  refine h _ _ w' ?_ (((Only.refl _ w).alloc _).grown grow (fun k _ e => e)) (fun j hj => ?_) ?_
  · unfold SOwn
    rw [List.length_append, sps_app, sps_one]
    exact own
  · have hj' : g = j := by simpa [Value.ownBlock] using hj
    subst hj'
    exact hat.imp id (fun e => by omega)
  · exact (((Only.refl _ w).alloc _).grown grow (fun k _ e => e)).below hB (fun k hk => (hown.lt k hk).1)
/-- The same at a step of a region that draws its order. -/
theorem step_push_span (hgd : o.guard = none) (s x : Operand) (ho : o.op = .call { callee := .builtin .append, args := #[s, x], argTypes := #[24, 24] })
    (y : Sp) (B : Nat) (v : Value) (l : List Sp) (hs : a.eval s = v) (hown : SOwn w B v l) (N : Nat) (hN : w.heap.size = N) (hx : a.eval x = .slice (some ⟨N, 0, none⟩) 1 1) (hl : l.length ≤ 1000000) (hB : B ≤ w.heap.size)
    (h : ∀ p' c' w', SOwn w' B (.slice p' (l.length + 1) c') (l ++ [y]) → Only (fun j => v.ownBlock = some j) w w' → (∀ j, (Value.slice p' (l.length + 1) c').ownBlock = some j → v.ownBlock = some j ∨ w.heap.size ≤ j) → Below B w w' → K (a.put o.dst (.slice p' (l.length + 1) c')) w') :
    if Region.wanted o (yielded ops a.tmps) = true then Oper.wp Try.prog o a (w.alloc (.cells #[.int .i64 y.1, .int .i64 y.2] 23)) K Q else X := by
  subst hN
  obtain ⟨i0, hi0, hz0, hz1, hz2⟩ := info_parts spinfo
  have hf := span_fits hl
  refine step_append_lies _ hgd s x _ ho B 23 i0 _ 2 16 Try.underlying24 hi0 hz0 hz1 hz2 rfl (by omega) v l.length (sps l) hs (hown.alloc _) ⟨w.heap.size, 0, none⟩ 1 1 [.int .i64 y.1, .int .i64 y.2] hx rfl (World.news_of_block (cs := #[_, _]) (t := 23) (fr := (0, 0)) (heap_alloc_new w _)) (by simp [Value.oneCell']) (by decide) hf.1 hf.2 (by simp; omega) (w.heap.size + 1) (by simp) ?_
  intro g cap w' own grow hat _
  refine h _ _ w' ?_ (((Only.refl _ w).alloc _).grown grow (fun k _ e => e)) (fun j hj => ?_) ?_
  · unfold SOwn
    rw [List.length_append, sps_app, sps_one]
    exact own
  · have hj' : g = j := by simpa [Value.ownBlock] using hj
    subst hj'
    exact hat.imp id (fun e => by omega)
  · exact (((Only.refl _ w).alloc _).grown grow (fun k _ e => e)).below hB (fun k hk => (hown.lt k hk).1)
end

theorem nan_to (w : World) (n : Int) : Calls Try.prog 60 #[.int .i64 n] w fun e w' => e = .returned (.bool false) ∧ w' = w := by
  go_enter Try.func60, Try.ntmps60
  go_wp2
  go_ret
  exact ⟨by simp, rfl⟩
def cfI (x y : Int) : Int := if x < y then -1 else if y < x then 1 else 0
theorem compare_int (w : World) (x y : Int) : Calls Try.prog 55 #[.int .i64 x, .int .i64 y] w fun e w' => e = .returned (.int .i64 (cfI x y)) ∧ w' = w := by
  unfold cfI
  go_enter Try.func55, Try.ntmps55
  by_cases h1 : x < y
  · rw [if_pos h1]
    have d1 : decide (x < y) = true := by simpa using h1
    go_wp2_with (first
      | (go_at_call 60; refine (nan_to _ _).mono ?_; rintro e w2 ⟨rfl, rfl⟩))
    go_ret
    exact ⟨rfl, rfl⟩
  · rw [if_neg h1]
    have d1 : decide (x < y) = false := by simpa using h1
    by_cases h2 : y < x
    · rw [if_pos h2]
      have d2 : decide (x > y) = true := by simpa using h2
      have d2' : decide (y < x) = true := by simpa using h2
      go_wp2_with (first
        | (go_at_call 60; refine (nan_to _ _).mono ?_; rintro e w2 ⟨rfl, rfl⟩))
      go_ret
      exact ⟨rfl, rfl⟩
    · rw [if_neg h2]
      have d2 : decide (x > y) = false := by simpa using h2
      have d2' : decide (y < x) = false := by simpa using h2
      go_wp2_with (first
        | (go_at_call 60; refine (nan_to _ _).mono ?_; rintro e w2 ⟨rfl, rfl⟩))
      go_ret
      exact ⟨rfl, rfl⟩
/-- Spans by their lower ends. -/
def cfS (x y : Sp) : Int := cfI x.1 y.1
theorem cmp_to (w : World) (x y : Sp) : Calls Try.prog 54 #[spv x, spv y] w fun e w' => e = .returned (.int .i64 (cfS x y)) ∧ w' = (w.alloc (.cells #[.int .i64 x.1, .int .i64 x.2] 23)).alloc (.cells #[.int .i64 y.1, .int .i64 y.2] 23) := by
  go_enter Try.func54, Try.ntmps54
  go_wp2_with (first
    | (go_at_call 55; refine (compare_int _ x.1 y.1).mono ?_; rintro e w2 ⟨rfl, rfl⟩))
  go_ret
  exact ⟨rfl, rfl⟩
theorem ltS (x y : Sp) : ltOf cfS x y = decide (x.1 < y.1) := by
  unfold ltOf cfS cfI
  by_cases h : x.1 < y.1
  · simp [h]
  · by_cases h2 : y.1 < x.1
    · simp [h, h2]
    · simp [h, h2]
theorem swoS : SWO (ltOf cfS) where
  irrefl x := by rw [ltS]; simp
  trans x y z h k := by rw [ltS] at *; simp at *; omega
  ntrans x y z h k := by rw [ltS] at *; simp at *; omega
theorem row_length (x : Sp) : (Sp.row x).length = 2 := rfl
theorem row_one' (x : Sp) : ∀ v ∈ Sp.row x, v.oneCell' = true := fun v hv => by
  simp [Sp.row] at hv
  rcases hv with rfl | rfl <;> rfl
theorem lays_cmpS (blk off size : Nat) (w : World) : CmpLays Try.prog 54 #[] Sp.row 2 cfS blk off size w := fun m os dk _ x y => by
  have h := cmp_to (sortWorldK Sp.row 2 w blk off m dk os) x y
  refine h.mono ?_
  rintro e w' ⟨he, hw⟩
  exact ⟨he, 0, _, by rw [hw, Sort.alloc_eq_grow, Sort.alloc_eq_grow, Sort.grow_grow]; rfl⟩
theorem flat_sps (d : Array Sp) : (flatK Sp.row 2 d).toList = sps d.toList := by
  refine List.ext_getElem? fun t => ?_
  by_cases ht : t < d.size * 2
  · have hi : t / 2 < d.size := by omega
    have hg := Sort.get_flatK Sp.row 2 d t ht
    have hs : t < (flatK Sp.row 2 d).size := by rw [Sort.size_flatK]; exact ht
    have e1 : (flatK Sp.row 2 d).toList[t]? = some ((Sp.row d[t / 2]!)[t % 2]!) := by
      rw [Array.getElem?_toList, Array.getElem?_eq_getElem hs, ← hg, getElem!_pos _ t hs]
    have hd : d[t / 2]! = d[t / 2] := getElem!_pos d (t / 2) hi
    have hi2 : t / 2 < d.toList.length := by simpa using hi
    have e2 := sps_at (l := d.toList) (i := t / 2) (s := d[t / 2]) (by rw [List.getElem?_eq_getElem hi2]; simp)
    rw [e1, hd]
    obtain ⟨s, hs2⟩ : ∃ s, s = d[t / 2] := ⟨_, rfl⟩
    rw [← hs2] at e2 ⊢
    rcases Nat.mod_two_eq_zero_or_one t with h | h
    · have e3 := e2.1
      rw [show t / 2 * 2 = t from by omega] at e3
      rw [h, e3]; rfl
    · have e3 := e2.2
      rw [show t / 2 * 2 + 1 = t from by omega] at e3
      rw [h, e3]; rfl
  · rw [List.getElem?_eq_none (by rw [Array.length_toList, Sort.size_flatK]; omega), List.getElem?_eq_none (by rw [sps_length]; simp; omega)]
theorem sput_row (F : Array Value) (C R : List Value) (h : F.size = C.length) : Sort.putCells id 0 F (C ++ R).toArray = (F.toList ++ R).toArray := by
  apply Array.ext_getElem?
  intro t
  unfold Sort.putCells
  rw [Array.getElem?_mapIdx, List.getElem?_toArray, List.getElem?_toArray]
  by_cases ht : t < F.size
  · rw [List.getElem?_append_left (by omega), List.getElem?_append_left (by simpa using ht), List.getElem?_eq_getElem (show t < C.length by omega)]
    simp [ht]
  · rw [List.getElem?_append_right (by omega), List.getElem?_append_right (by simp; omega), show F.toList.length = C.length from by simpa using h]
    generalize R[t - C.length]? = o
    cases o with
    | none => rfl
    | some v => rw [Option.map_some, if_neg (by omega)]
theorem sgrow_at (X : World) (os : Array Obj) (k : Nat) (hk : k < X.heap.size) : (grow X os).heap[k]? = X.heap[k]? := by
  show (X.heap ++ os)[k]? = _
  rw [Array.getElem?_append_left hk]
theorem sputK_at (w : World) (n g : Nat) (d : Array Sp) (k : Nat) : (putRowK Sp.row 2 (Sort.ahead w n) g 0 d).heap[k]? = if g = k then (w.heap[k]?).map (Sort.onCells (Sort.putCells id 0 (flatK Sp.row 2 d))) else w.heap[k]? := by
  show (w.heap.modify g (Sort.onCells (Sort.putCells id 0 (flatK Sp.row 2 d))))[k]? = _
  rw [Array.getElem?_modify]
theorem sputK_size (w : World) (n g : Nat) (d : Array Sp) : (putRowK Sp.row 2 (Sort.ahead w n) g 0 d).heap.size = w.heap.size := by
  show (w.heap.modify g (Sort.onCells (Sort.putCells id 0 (flatK Sp.row 2 d)))).size = _
  rw [Array.size_modify]
theorem ssort_row (w : World) (g cap : Nat) (E : List Sp) (R : List Value) (hg : w.heap[g]? = some (.cells (sps E ++ R).toArray 23 (0, 0))) (hn : E.length ≤ 1000000) :
    Calls Try.prog 53 #[.slice (some ⟨g, 0, none⟩) E.length cap, .func (.func 54) #[] #[]] w fun e w' => e = .returned (.tuple #[]) ∧
      ∃ E', E'.length = E.length ∧ (∀ a, a ∈ E' ↔ a ∈ E) ∧ E'.Pairwise (fun a b => a.1 ≤ b.1) ∧ w'.heap[g]? = some (.cells (sps E' ++ R).toArray 23 (0, 0)) ∧ Only (fun k => k = g) w w' := by
  have eg : ∀ args w, (callFunc 54 args).run Try.prog w = .ok (.enter 54 args) w := enters_of Try.func54 (by kernel_rfl) rfl
  obtain ⟨d, hdm⟩ : ∃ d : Array Sp, d.toList = E := ⟨E.toArray, by simp⟩
  have hds : d.size = E.length := by rw [← hdm]; simp
  have hfl := flat_sps d
  rw [hdm] at hfl
  have hgl := (Array.getElem?_eq_some_iff.1 hg).1
  have hH : HoldsK Sp.row 2 w g 0 d := fun t ht => by
    rw [Nat.zero_add]
    have hs : t < (sps E).length := by rw [← hfl]; simpa using ht
    constructor
    · rw [cell_of_row w g t _ _ _ hg, List.getElem?_toArray, List.getElem?_append_left hs, ← hfl, Array.getElem?_toList, getElem!_pos _ t ht]
      simp
    · simp [World.frozen?, hg]
  have hc := AnyQ.slices_SortFunc Try.ssortf 2 Try.isAgg23 Try.sizeOf23 Sp.row row_length row_one' cfS swoS 54 #[] g 0 cap d w eg (lays_cmpS g 0 d.size w) hH hgl (by omega)
  rw [hds] at hc
  refine Calls.mono hc ?_
  rintro e w' ⟨he, d', n, os, hp, hso, rfl⟩
  refine ⟨he, d'.toList, ?_, ?_, ?_, ?_, ?_⟩
  · rw [Array.length_toList, hp.1, hds]
  · intro a
    have hpm := hp.2.2
    have e1 : d'.extract 0 E.length = d' := by rw [← hds, ← hp.1]; exact Array.extract_size
    have e2 : d.extract 0 E.length = d := by rw [← hds]; exact Array.extract_size
    rw [e1, e2] at hpm
    rw [← hdm]
    exact hpm.mem_iff
  · rw [List.pairwise_iff_getElem]
    intro i j hi hj hij
    have hi' : i < d'.size := by simpa using hi
    have hj' : j < d'.size := by simpa using hj
    have h := hso i j (Nat.zero_le _) hij (by rw [← hds, ← hp.1]; exact hj')
    rw [getElem!_pos d' i hi', getElem!_pos d' j hj', ltS] at h
    simpa using h
  · show (grow (putRowK Sp.row 2 (Sort.ahead w n) g 0 d') os).heap[g]? = _
    rw [sgrow_at _ _ _ (by rw [sputK_size]; exact hgl), sputK_at, if_pos rfl, hg]
    show some (Obj.cells (Sort.putCells id 0 (flatK Sp.row 2 d') (sps E ++ R).toArray) _ _) = _
    rw [sput_row _ _ _ (by rw [Sort.size_flatK, hp.1, hds, sps_length]), flat_sps]
  · refine ⟨rfl, rfl, rfl, ?_, fun k hk hn => ?_⟩
    · show _ ≤ ((putRowK Sp.row 2 (Sort.ahead w n) g 0 d').heap ++ os).size
      rw [Array.size_append, sputK_size]; omega
    · show (grow (putRowK Sp.row 2 (Sort.ahead w n) g 0 d') os).heap[k]? = _
      rw [sgrow_at _ _ _ (by rw [sputK_size]; exact hk), sputK_at, if_neg (fun e => hn e.symm)]
end Go.Proofs.Ytpjfgkjhhmfhkaa
