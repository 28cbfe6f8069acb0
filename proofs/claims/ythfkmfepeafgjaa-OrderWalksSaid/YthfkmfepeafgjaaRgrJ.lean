/- The reference's graph: some (those that are marked). Conditions: no more than 100000 commits. · What the reference's Ancestors marks: plain mathematics. No condition. · The reference's Ancestors: its marks, made and set; how many are not set. Condition: no more than a million. · The reference's Ancestors. Conditions: hashes of 32 bytes; what is asked and all parents are fewer than 900000. · The reference's Descendants: what it marks. Plain mathematics. No condition. · The reference's Descendants. Conditions: hashes of 32 bytes; no more than a million hashes asked; all parents are there. -/
import Derived.Test.YthfkmfepeafgjaaRgrC
import Derived.Laws.OwnMore
import Derived.Test.YthfkmfepeafgjaaGphH
namespace Go.Proofs.Ythfkmfepeafgjaa
open Go.RowKit
open Go.Maps

/-- A row of marks. -/
def BAt (W : World) (a : Nat) (L : List Bool) : Prop := W.heap[a]? = some (.cells (L.map Value.bool).toArray 4 (0, 0))
theorem BAt.at {W : World} {a : Nat} {L : List Bool} (h : BAt W a L) {i : Nat} (hi : i < L.length) : W.cell? ⟨a, i, none⟩ = some (.bool L[i]) := by
  rw [cell_of_row W a i _ _ _ h]
  simp [hi]
theorem BAt.mild {W W' : World} {a : Nat} {L : List Bool} (h : BAt W a L) (m : Mild W W') : BAt W' a L := m.cells h
/-- Those that are marked. -/
def selk (K : List Key) (L : List Bool) : List Key := ((K.zip L).filter (·.2)).map (·.1)
theorem selk_len (K : List Key) (L : List Bool) : (selk K L).length ≤ K.length := by
  unfold selk
  rw [List.length_map]
  exact Nat.le_trans (List.length_filter_le _ _) (by rw [List.length_zip]; exact Nat.min_le_left _ _)
theorem selk_succ {K : List Key} {L : List Bool} {k : Nat} (hK : k < K.length) (hL : k < L.length) : selk (K.take (k + 1)) (L.take (k + 1)) = selk (K.take k) (L.take k) ++ (if L[k] then [K[k]] else []) := by
  unfold selk
  rw [List.take_succ_eq_append_getElem hK, List.take_succ_eq_append_getElem hL, List.zip_append (by rw [List.length_take, List.length_take]; omega), List.filter_append, List.map_append]
  congr 1
  cases L[k] <;> rfl
theorem mem_selk {K : List Key} {L : List Bool} {x : Key} (hl : K.length = L.length) : x ∈ selk K L ↔ ∃ k, ∃ h1 : k < K.length, ∃ h2 : k < L.length, K[k] = x ∧ L[k] = true := by
  unfold selk
  rw [List.mem_map]
  constructor
  · rintro ⟨⟨y, b⟩, hm, rfl⟩
    obtain ⟨h1, h2⟩ := List.mem_filter.1 hm
    obtain ⟨k, hk, e⟩ := List.mem_iff_getElem.1 h1
    rw [List.length_zip] at hk
    rw [List.getElem_zip] at e
    injection e with e1 e2
    exact ⟨k, by omega, by omega, e1, by rw [e2]; exact h2⟩
  · rintro ⟨k, h1, h2, rfl, hb⟩
    refine ⟨(K[k], L[k]), List.mem_filter.2 ⟨?_, hb⟩, rfl⟩
    exact List.mem_iff_getElem.2 ⟨k, by rw [List.length_zip]; omega, by rw [List.getElem_zip]⟩
set_option linter.unusedSimpArgs false in
set_option maxRecDepth 20000 in
set_option maxHeartbeats 4000000 in
attribute [local go_sem ↓] hld_open in
theorem rsome_to (w : World) (rg : Nat) (p : Option Addr) (n cap : Nat) (T : Lx) (R : RG w rg p n cap T) (a cb : Nat) (L : List Bool) (hL : BAt w a L) (hLn : L.length = T.length) :
    Calls Try.prog 40 #[rp rg, .slice (some ⟨a, 0, none⟩) n cb] w fun e w' => ∃ v, e = .returned v ∧ HOwn w' w.heap.size v (selk (T.map (·.1)) L) ∧ Below w.heap.size w w' := by
  have RR := Lib.hid R
  have BL := Lib.hid hL
  have HLN := Lib.hid hLn
  clear R hL hLn
  go_enter Try.func40, Try.ntmps40
  go_wp2_with fail
  go_loopw [5, 6] (fun v5 v6 wr => ∃ (q : Option Addr) (m c k : Nat), v5 = .slice q m c ∧ v6 = .int .i64 k ∧ k ≤ n ∧ Hid (∃ S, S = selk ((T.map (·.1)).take k) (L.take k) ∧ HOwn wr w.heap.size (.slice q m c) S) ∧ Hid (Below w.heap.size w wr)) (fun _ v6 _ => n - (intOf v6).toNat)
  case atStart => exact ⟨none, 0, 0, 0, rfl, rfl, Nat.zero_le _, Lib.hid ⟨[], by simp [selk], World.ownsRow_nil _ _ _ _⟩, Lib.hid (Below.refl _ _)⟩
  case round =>
    obtain ⟨q, m, c, k, rfl, rfl, hk, O, B⟩ := hrel
    have R1 := Lib.hid (RR.out.kb B.out)
    have hr1 := R1.out.c
    by_cases hlt : k < n
    · obtain ⟨j1, j2, j3⟩ := next_fit hlt (by have := RR.out.len; have := RR.out.few; omega)
      have hkT : k < T.length := by rw [← RR.out.len]; exact hlt
      have hkL : k < L.length := by rw [HLN.out]; exact hkT
      obtain ⟨b, o, cap', e1, hrg⟩ := R1.out.ts.at (List.getElem?_eq_getElem hkT)
      injection e1 with e1 e2 e3
      subst e1
      obtain ⟨x, hx⟩ : ∃ x, x = T[k] := ⟨_, rfl⟩
      rw [← hx] at hrg
      have HX32 : Hid (x.1.length = 32) := Lib.hid (by rw [hx]; exact R1.out.ts.h32 _ (List.getElem_mem hkT))
      have hld0 := hld_range HX32.out (rng_pre hrg)
      obtain ⟨S, hS, oS⟩ := O.out
      have hca := (BL.out.mild (mild_below B.out)).at hkL
      obtain ⟨bk, hbk⟩ : ∃ bk, bk = L[k] := ⟨_, rfl⟩
      rw [← hbk] at hca
      have HTK : Hid (selk ((T.map (·.1)).take (k + 1)) (L.take (k + 1)) = S ++ (if bk then [x.1] else [])) := Lib.hid (by rw [selk_succ (by rw [List.length_map]; exact hkT) hkL, hS, ← hbk, List.getElem_map, ← hx])
      have HLM : Hid (S.length ≤ k) := Lib.hid (by rw [hS]; exact Nat.le_trans (selk_len _ _) (by rw [List.length_take]; omega))
      have HKN := Lib.hid hlt
      have HJ1 := Lib.hid j1
      have HFW : Hid (k + 1 ≤ 1000000) := Lib.hid (by have := RR.out.len; have := RR.out.few; omega)
      have BA := Lib.hid (below_al11 wr (.cells (hv x.1) 28))
      have HB1 := Lib.hid (heap_alloc_last wr (.cells (hv x.1) 28))
      have OS := Lib.hid oS
      have OA : Hid (HOwn (wr.alloc (.cells (hv x.1) 28)) w.heap.size (.slice q m c) S) := Lib.hid (own_below oS BA.out)
      clear hx hrg hkT hkL hk hlt e2 e3 hS oS O hbk
      cases bk with
      | true =>
        go_wp2_with (first
          | (at_builtin; refine push_loc rfl (.tmp 17) (.tmp 26) rfl w.heap.size (.slice q m c) S wr.heap.size x.1 HX32.out rfl OA.out rfl (by have := range_row HB1.out; rwa [hv_list] at this) (by have := HLM.out; have := HFW.out; omega) (Nat.le_trans B.out.size BA.out.size) ?_; intro v2 w2 o2 oth2 loc2; have O2 := Lib.hid o2; have B2 := Lib.hid ((B.out.trans (BA.out.mono B.out.size)).trans (oth2.below (Nat.le_trans B.out.size BA.out.size) (fun k hk => own_from OA.out k hk))); clear o2 oth2 loc2)
          | (refine build_one x.1 HX32.out rfl ?_))
        obtain ⟨q2, m2, c2, hv2, hm2⟩ := own_sh O2.out
        subst hv2
        clear hm2
        refine ⟨⟨q2, m2, c2, k + 1, rfl, by rw [HJ1.out], HKN.out, Lib.hid ⟨_, HTK.out.symm, O2.out⟩, B2⟩, ?_⟩
        rw [HJ1.out]; simp only [intOf, Int.toNat_natCast]; have := HKN.out; omega
      | false =>
        go_wp2_with fail
        refine ⟨⟨q, m, c, k + 1, rfl, by rw [HJ1.out], HKN.out, Lib.hid ⟨S, by rw [HTK.out]; simp, OS.out⟩, B⟩, ?_⟩
        rw [HJ1.out]; simp only [intOf, Int.toNat_natCast]; have := HKN.out; omega
    · obtain rfl : k = n := by omega
      go_wp2_with fail
      go_ret
      refine ⟨_, rfl, ?_, B.out⟩
      obtain ⟨S, hS, oS⟩ := O.out
      rw [List.take_of_length_le (by rw [List.length_map, ← RR.out.len]; exact Nat.le_refl _), List.take_of_length_le (by rw [HLN.out, ← RR.out.len]; exact Nat.le_refl _)] at hS
      rw [← hS]; exact oS
end Go.Proofs.Ythfkmfepeafgjaa
namespace Go.Proofs.Ythfkmfepeafgjaa
open Go.RowKit
open Go.Maps

open Classical in
theorem selk_filter (P : Key → Prop) : ∀ (K : List Key) (L : List Bool), K.length = L.length → (∀ k (h1 : k < K.length) (h2 : k < L.length), L[k] = true ↔ P K[k]) → selk K L = K.filter fun x => decide (P x)
  | [], _, _, _ => rfl
  | x :: K, [], h, _ => by simp at h
  | x :: K, b :: L, h, hp => by
    have ih := selk_filter P K L (by simpa using h) (fun k h1 h2 => hp (k + 1) (by simpa using h1) (by simpa using h2))
    have h0 := hp 0 (by simp) (by simp)
    simp only [List.getElem_cons_zero] at h0
    have e : selk (x :: K) (b :: L) = (if b then [x] else []) ++ selk K L := by
      unfold selk
      rw [List.zip_cons_cons, List.filter_cons]
      cases b <;> rfl
    rw [e, ih]
    cases b with
    | true => rw [List.filter_cons_of_pos (by simp; exact h0.1 rfl)]; rfl
    | false => rw [List.filter_cons_of_neg (by simp; exact fun h => by have := h0.2 h; cases this)]; rfl
/-- Number k is marked, or still to be done. -/
def On (L : List Bool) (S : List Nat) (k : Nat) : Prop := k ∈ S ∨ L[k]? = some true
/-- What holds while the ancestors are marked. -/
structure AI (T : Lx) (E : List Key) (L : List Bool) (S : List Nat) : Prop where
  len : L.length = T.length
  lt : ∀ k ∈ S, k < T.length
  snd : ∀ (k : Nat) (x : Key × (Value × List Key)), T[k]? = some x → On L S k → Anc (gr T) E x.1
  all : ∀ h ∈ E, (aget h (gr T)).isSome = true → ∃ k, AtK T k h ∧ On L S k
  clo : ∀ (k : Nat) (x : Key × (Value × List Key)), T[k]? = some x → L[k]? = some true → ∀ p ∈ x.2.2, ∃ j, AtK T j p ∧ On L S j
theorem at_adj {T : Lx} (ha : AAsc T) {k : Nat} {x : Key × (Value × List Key)} (hx : T[k]? = some x) : adj (gr T) x.1 = x.2.2 := by
  obtain ⟨y, hy, _, e⟩ := atk_get ha ⟨x, hx, rfl⟩
  rw [hx] at hy
  injection hy with hy
  unfold adj
  rw [gr_get, e, ← hy]; rfl
theorem AI.anc {T : Lx} {E : List Key} {L : List Bool} (h : AI T E L []) (ha : AAsc T) {a x : Key} (hu : Up (adj (gr T)) a x) : (∃ k, AtK T k a ∧ L[k]? = some true) → ∃ k, AtK T k x ∧ L[k]? = some true := by
  induction hu with
  | refl => exact id
  | step h1 _ ih =>
    rintro ⟨k, ⟨y, hy, rfl⟩, hk⟩
    rw [at_adj ha hy] at h1
    obtain ⟨j, hj, hon⟩ := h.clo k y hy hk _ h1
    exact ih ⟨j, hj, hon.elim (fun h => by simp at h) id⟩
theorem atk_one {T : Lx} (ha : AAsc T) {j k : Nat} {h : Key} (h1 : AtK T j h) (h2 : AtK T k h) : j = k := by
  obtain ⟨x, hx, rfl⟩ := h1
  obtain ⟨y, hy, e⟩ := h2
  obtain ⟨hj, rfl⟩ := List.getElem?_eq_some_iff.1 hx
  obtain ⟨hk, rfl⟩ := List.getElem?_eq_some_iff.1 hy
  rcases Nat.lt_trichotomy j k with hl | hl | hl
  · have := asc_less ha hk hl
    rw [e, less_irrefl] at this; cases this
  · exact hl
  · have := asc_less ha hj hl
    rw [e, less_irrefl] at this; cases this
/-- All is marked that should be. -/
theorem AI.done {T : Lx} {E : List Key} {L : List Bool} (h : AI T E L []) (ha : AAsc T) : selk (T.map (·.1)) L = ancs (gr T) E := by
  have e : (gr T).map (·.1) = T.map (·.1) := by simp [gr, amap]
  unfold ancs
  rw [e]
  refine selk_filter (Anc (gr T) E) _ _ (by rw [List.length_map, h.len]) fun k h1 h2 => ?_
  have hk : k < T.length := by simpa using h1
  rw [List.getElem_map]
  have hx : T[k]? = some T[k] := List.getElem?_eq_getElem hk
  constructor
  · intro hb
    exact h.snd k _ hx (.inr (by rw [List.getElem?_eq_getElem h2, hb]))
  · rintro ⟨a, hE, hs, hu⟩
    obtain ⟨j, hj, hon⟩ := h.all a hE hs
    obtain ⟨i, hi, him⟩ := h.anc ha hu ⟨j, hj, hon.elim (fun h => by simp at h) id⟩
    have := atk_one ha hi ⟨_, hx, rfl⟩
    subst this
    rw [List.getElem?_eq_getElem h2] at him
    injection him
/-- One that is marked already is passed over. -/
theorem AI.pop {T : Lx} {E : List Key} {L : List Bool} {S : List Nat} {k : Nat} (h : AI T E L (S ++ [k])) (hk : L[k]? = some true) : AI T E L S := by
  have on : ∀ j, On L (S ++ [k]) j → On L S j := fun j hj => by
    rcases hj with hj | hj
    · rcases List.mem_append.1 hj with hj | hj
      · exact .inl hj
      · rw [List.mem_singleton.1 hj]; exact .inr hk
    · exact .inr hj
  exact ⟨h.len, fun j hj => h.lt j (by simp [hj]), fun j x hx hj => h.snd j x hx (hj.elim (fun h => .inl (by simp [h])) .inr), fun a hE hs => by obtain ⟨j, h1, h2⟩ := h.all a hE hs; exact ⟨j, h1, on j h2⟩, fun j x hx hj p hp => by obtain ⟨i, h1, h2⟩ := h.clo j x hx hj p hp; exact ⟨i, h1, on i h2⟩⟩
/-- One is marked; its parents are still to be done. -/
theorem AI.mark {T : Lx} {E : List Key} {L : List Bool} {S P : List Nat} {k : Nat} {x : Key × (Value × List Key)} (h : AI T E L (S ++ [k])) (ha : AAsc T) (hx : T[k]? = some x) (hP : ∀ j ∈ P, ∃ p ∈ x.2.2, AtK T j p) (hA : ∀ p ∈ x.2.2, ∃ j ∈ P, AtK T j p) : AI T E (L.set k true) (S ++ P) := by
  have hkl : k < L.length := by rw [h.len]; exact (List.getElem?_eq_some_iff.1 hx).1
  have hset : (L.set k true)[k]? = some true := by rw [List.getElem?_set_self hkl]
  have on : ∀ j, On L (S ++ [k]) j → On (L.set k true) (S ++ P) j := fun j hj => by
    by_cases e : j = k
    · rw [e]; exact .inr hset
    · rcases hj with hj | hj
      · rcases List.mem_append.1 hj with hj | hj
        · exact .inl (by simp [hj])
        · exact absurd (List.mem_singleton.1 hj) e
      · exact .inr (by rw [List.getElem?_set_ne (fun h => e h.symm)]; exact hj)
  have hax : Anc (gr T) E x.1 := h.snd k x hx (.inl (by simp))
  refine ⟨by rw [List.length_set]; exact h.len, fun j hj => ?_, fun j y hy hj => ?_, fun a hE hs => ?_, fun j y hy hj p hp => ?_⟩
  · rcases List.mem_append.1 hj with hj | hj
    · exact h.lt j (by simp [hj])
    · obtain ⟨p, _, y, hy, _⟩ := hP j hj
      exact (List.getElem?_eq_some_iff.1 hy).1
  · rcases hj with hj | hj
    · rcases List.mem_append.1 hj with hj | hj
      · exact h.snd j y hy (.inl (by simp [hj]))
      · obtain ⟨p, hp, z, hz, rfl⟩ := hP j hj
        rw [hy] at hz
        injection hz with hz
        subst hz
        obtain ⟨a, hE, hs, hu⟩ := hax
        exact ⟨a, hE, hs, hu.trans (Up.one (by rw [at_adj ha hx]; exact hp))⟩
    · by_cases e : j = k
      · subst e
        rw [hx] at hy
        injection hy with hy
        rw [← hy]; exact hax
      · rw [List.getElem?_set_ne (fun h => e h.symm)] at hj
        exact h.snd j y hy (.inr hj)
  · obtain ⟨j, h1, h2⟩ := h.all a hE hs
    exact ⟨j, h1, on j h2⟩
  · by_cases e : j = k
    · subst e
      rw [hx] at hy
      injection hy with hy
      subst hy
      obtain ⟨i, hi, hat⟩ := hA p hp
      exact ⟨i, hat, .inl (by simp [hi])⟩
    · rw [List.getElem?_set_ne (fun h => e h.symm)] at hj
      obtain ⟨i, h1, h2⟩ := h.clo j y hy hj p hp
      exact ⟨i, h1, on i h2⟩
end Go.Proofs.Ythfkmfepeafgjaa
namespace Go.Proofs.Ythfkmfepeafgjaa
open Go.RowKit
open Go.Maps

theorem blinfo : (Try.prog.info? 4).map (fun i => (i.zero, i.size, i.bytes)) = some (some (.bool false), 1, 1) := by kernel_rfl
theorem made_bools (w : World) (m : Nat) (hm : m ≤ 1000000) : ∃ w' : World, (Instr.makeSlice 76 (.int .i64 (m : Int)) (.int .i64 (m : Int))).run Try.prog w = .ok (.slice (some ⟨w.heap.size, 0, none⟩) m m) w' ∧ BAt w' w.heap.size (List.replicate m false) ∧ Below w.heap.size w w' := by
  obtain ⟨i0, hi0, hz0, hz1, hz2⟩ := info_parts blinfo
  obtain ⟨w', h1, h2, h3⟩ := run_makeSlice_full (P := Try.prog) w w.heap.size 76 4 i0 _ 1 Try.underlying76 hi0 hz0 hz1 .i64 .i64 m (by omega) (by rw [hz2]; omega) (by unfold maxLen; omega) (Nat.le_refl _)
  refine ⟨w', h1, ?_, (Below.refl _ w).grown h3 (Nat.le_refl _) (fun k hk => by cases hk)⟩
  have e : (madeCells (Value.bool false).cells (m * 1)).toList = (List.replicate m false).map Value.bool := by
    rw [show (Value.bool false).cells = #[.bool false] from rfl, toList_madeCells_one, Nat.mul_one]
    simp
  rw [e] at h2
  rcases h2.2 with ⟨h4, _⟩ | ⟨g, cap, cur, h4, _, hg, _, _, hs, hc⟩
  · cases h4
  · simp only [Value.slice.injEq, Option.some.injEq, Addr.mk.injEq, and_true, true_and] at h4
    obtain ⟨e1, e3⟩ := h4
    rw [← e1] at hg
    rw [← e3] at hs
    rw [List.take_of_length_le (by rw [Array.length_toList, hs]; exact Nat.le_refl _)] at hc
    unfold BAt
    rw [← hc, Array.toArray_toList]
    exact hg
/-- A mark is set. -/
theorem BAt.set {W : World} {a : Nat} {L : List Bool} (h : BAt W a L) (k : Nat) (b : Bool) : BAt (W.setCell ⟨a, k, none⟩ (.bool b)) a (L.set k b) := by
  unfold BAt at *
  unfold World.setCell
  simp only [Array.getElem?_modify, if_true, h, Option.map_some]
  simp
theorem BAt.only {W W' : World} {S : Nat → Prop} {a : Nat} {L : List Bool} (h : BAt W a L) (ho : Only S W W') (hs : ¬ S a) : BAt W' a L := (ho.block a (Array.getElem?_eq_some_iff.1 h).1 hs).trans h
/-- The marks, read out of the memory. -/
def marks (W : World) (a : Nat) : List Bool := match W.heap[a]? with
  | some (.cells cs _ _) => cs.toList.map fun v => match v with | .bool b => b | _ => false
  | _ => []
theorem BAt.marks {W : World} {a : Nat} {L : List Bool} (h : BAt W a L) : marks W a = L := by
  unfold Proofs.Ythfkmfepeafgjaa.marks
  rw [h]
  simp only [List.map_map]
  exact List.map_id' _
/-- What is left to be done: for each that is not marked, one more than its parents. -/
def left : Lx → List Bool → Nat
  | [], _ => 0
  | _ :: _, [] => 0
  | x :: T, b :: L => (if b then 0 else x.2.2.length + 1) + left T L
theorem left_set : ∀ {T : Lx} {L : List Bool} {k : Nat} {x : Key × (Value × List Key)}, T[k]? = some x → L[k]? = some false → left T (L.set k true) + (x.2.2.length + 1) = left T L
  | [], _, _, _, h, _ => by simp at h
  | _ :: _, [], _, _, _, h => by simp at h
  | y :: T, b :: L, 0, x, h1, h2 => by
    simp at h1 h2
    subst h1 h2
    simp [left]
    omega
  | y :: T, b :: L, k + 1, x, h1, h2 => by
    have := left_set (T := T) (L := L) (k := k) (x := x) (by simpa using h1) (by simpa using h2)
    simp only [List.set_cons_succ, left]
    omega
/-- A stack of numbers. -/
abbrev NStk (W : World) (B : Nat) (v : Value) (S : List Nat) : Prop := IOwns W B v (S.map fun k : Nat => (k : Int))
section
variable {ops : Array Oper} {rest : List Oper} {a : Act} {Q : Exit → Act → World → Prop} {o : Oper} {w : World}
/-- append of one number: all of it. -/
theorem push_nat (hgd : o.guard = none) (s x : Operand) (ho : o.op = .call { callee := .builtin .append, args := #[s, x], argTypes := #[33, 33] })
    (B : Nat) (v : Value) (S : List Nat) (b : Nat) (e : Nat) (hs : a.eval s = v) (hown : NStk w B v S) (hx : a.eval x = .slice (some ⟨b, 0, none⟩) 1 1)
    (hb : w.heap[b]? = some (.cells #[.int .i64 e] 3 (0, 0))) (hl : S.length + 1 ≤ 1000000) (hB : B ≤ w.heap.size)
    (h : ∀ (g c m : Nat) (w' : World), m = S.length + 1 → NStk w' B (.slice (some ⟨g, 0, none⟩) m c) (S ++ [e]) → Only (fun j => v.ownBlock = some j) w w' → wpList Try.prog ops Q rest (a.put o.dst (.slice (some ⟨g, 0, none⟩) m c)) w') :
    wpList Try.prog ops Q (o :: rest) a w := by
  obtain ⟨i0, hi0, hz0, hz1, hz2⟩ := info_parts iinfo
  obtain ⟨n, hn⟩ : ∃ n, n = S.length := ⟨_, rfl⟩
  rw [← hn] at hl h
  unfold NStk IOwns at hown
  rw [List.length_map, ← hn] at hown
  refine wpList_append_lies w hgd s x 33 ho B 3 i0 _ 1 8 Try.underlying33 hi0 hz0 hz1 hz2 rfl (by omega) v n _ hs hown ⟨b, 0, none⟩ 1 1 [.int .i64 e] hx rfl (World.news_of_block hb) (fun u hu => by rw [List.mem_singleton.1 hu]; rfl) (by decide) (by unfold maxLen; omega) (by omega) hB _ rfl ?_
  intro g c w' o' gr _ _
  refine h g c (n + 1) w' rfl ?_ (Only.grown (Only.refl _ _) gr (fun k _ e => e))
  unfold NStk IOwns
  rw [List.length_map, List.length_append, List.length_singleton, ← hn, List.map_append, List.map_append]
  exact o'
end
theorem NStk.pop {W : World} {B : Nat} {p : Option Addr} {n c : Nat} {S : List Nat} {k : Nat} (h : NStk W B (.slice p (n + 1) c) (S ++ [k])) : NStk W B (.slice p n c) S := by
  unfold NStk IOwns at *
  rw [List.length_map, List.length_append, List.length_singleton] at h
  rw [List.length_map]
  refine ⟨by simp, ?_⟩
  rcases h.2 with ⟨h1, _⟩ | ⟨g, cap, cur, h1, h2, h3, h4, h5, h6, h7⟩
  · simp at h1
  · simp only [Value.slice.injEq] at h1
    obtain ⟨e1, e2, e3⟩ := h1
    have en : n = S.length := by omega
    subst e1 e3
    refine .inr ⟨g, c, cur, by rw [en], h2, h3, by omega, h5, h6, ?_⟩
    have e : cur.toList.take (S.length * 1) = (cur.toList.take ((S.length + 1) * 1)).take S.length := by rw [List.take_take]; congr 1; omega
    rw [e, h7, List.map_append, List.map_append, List.take_left' (by simp)]
end Go.Proofs.Ythfkmfepeafgjaa
namespace Go.Proofs.Ythfkmfepeafgjaa
open Go.RowKit
open Go.Maps

theorem AI.ask {T : Lx} {E : List Key} {L : List Bool} {S : List Nat} {k : Nat} {y : Key} (h : AI T E L S) (ha : AAsc T) (hat : AtK T k y) : AI T (E ++ [y]) L (S ++ [k]) := by
  have up : ∀ x, Anc (gr T) E x → Anc (gr T) (E ++ [y]) x := fun x ⟨a, h1, h2⟩ => ⟨a, by simp [h1], h2⟩
  have on : ∀ j, On L S j → On L (S ++ [k]) j := fun j hj => hj.elim (fun h => .inl (by simp [h])) .inr
  obtain ⟨z, hz, hzy⟩ := hat
  refine ⟨h.len, fun j hj => ?_, fun j x hx hj => ?_, fun a hE hs => ?_, fun j x hx hj p hp => ?_⟩
  · rcases List.mem_append.1 hj with hj | hj
    · exact h.lt j hj
    · rw [List.mem_singleton.1 hj]; exact (List.getElem?_eq_some_iff.1 hz).1
  · by_cases e : j = k
    · subst e
      rw [hx] at hz
      injection hz with hz
      subst hz
      subst hzy
      obtain ⟨y, _, _, e⟩ := atk_get ha ⟨x, hx, rfl⟩
      exact ⟨x.1, by simp, by rw [gr_get, e]; rfl, .refl _⟩
    · refine up _ (h.snd j x hx ?_)
      rcases hj with hj | hj
      · rcases List.mem_append.1 hj with hj | hj
        · exact .inl hj
        · exact absurd (List.mem_singleton.1 hj) e
      · exact .inr hj
  · rcases List.mem_append.1 hE with hE | hE
    · obtain ⟨j, h1, h2⟩ := h.all a hE hs
      exact ⟨j, h1, on j h2⟩
    · rw [List.mem_singleton.1 hE]
      exact ⟨k, ⟨z, hz, hzy⟩, .inl (by simp)⟩
  · obtain ⟨i, h1, h2⟩ := h.clo j x hx hj p hp
    exact ⟨i, h1, on i h2⟩
theorem AI.askn {T : Lx} {E : List Key} {L : List Bool} {S : List Nat} {y : Key} (h : AI T E L S) (hn : aget y T = none) : AI T (E ++ [y]) L S := by
  refine ⟨h.len, h.lt, fun j x hx hj => ?_, fun a hE hs => ?_, h.clo⟩
  · obtain ⟨a, h1, h2⟩ := h.snd j x hx hj
    exact ⟨a, by simp [h1], h2⟩
  · rcases List.mem_append.1 hE with hE | hE
    · exact h.all a hE hs
    · rw [List.mem_singleton.1 hE, gr_get, hn] at hs
      cases hs
theorem AI.start (T : Lx) (n : Nat) (hn : n = T.length) : AI T [] (List.replicate n false) [] :=
  ⟨by rw [List.length_replicate, hn], fun k hk => by simp at hk, fun k x _ h => by
    rcases h with h | h
    · simp at h
    · rw [List.getElem?_replicate] at h
      split at h <;> simp at h, fun a h => by simp at h, fun k x _ h => by
      rw [List.getElem?_replicate] at h
      split at h <;> simp at h⟩
theorem NStk.top {W : World} {B : Nat} {p : Option Addr} {n c : Nat} {S : List Nat} {k : Nat} (h : NStk W B (.slice p (n + 1) c) (S ++ [k])) : ∃ g, p = some ⟨g, 0, none⟩ ∧ W.cell? ⟨g, n, none⟩ = some (.int .i64 k) ∧ n + 1 ≤ c ∧ n = S.length := by
  unfold NStk IOwns at h
  rw [List.length_map, List.length_append, List.length_singleton] at h
  rcases h.2 with ⟨h1, _⟩ | ⟨g, cap, cur, h1, h2, h3, h4, h5, h6, h7⟩
  · simp at h1
  · simp only [Value.slice.injEq] at h1
    obtain ⟨e1, e2, e3⟩ := h1
    have en : n = S.length := by omega
    refine ⟨g, e1, ?_, by omega, en⟩
    rw [cell_of_row W g n _ _ _ h3]
    have h8 : (cur.toList.take ((S.length + 1) * 1))[n]? = some (.int .i64 k) := by
      rw [h7, List.map_append, List.map_append, List.getElem?_append_right (by simp [en]), List.length_map, List.length_map, en, Nat.sub_self]; rfl
    rw [List.getElem?_take, if_pos (by omega)] at h8
    simpa using h8
def nlen : Value → Nat
  | .slice _ n _ => n
  | _ => 0
theorem pop_fits {m : Nat} (h : m + 1 ≤ 900000) : wrap64 (m : Int) = (m : Int) ∧ (0 : Int) ≤ m ∧ (m : Int) < (m : Int) + 1 ∧ decide (((m + 1 : Nat) : Int) > 0) = true := by
  refine ⟨by unfold wrap64; omega, by omega, by omega, decide_eq_true (by omega)⟩
set_option linter.unusedSimpArgs false in
set_option maxRecDepth 20000 in
set_option maxHeartbeats 4000000 in
attribute [local go_sem ↓] hld_open in
theorem ranc_to (w : World) (rg : Nat) (p : Option Addr) (n cap : Nat) (T : Lx) (R : RG w rg p n cap T) (v : Value) (E : List Key) (hE : HSeen w v E) (h32 : H32 E) (hcl : Clo (gr T)) (hM : E.length + left T (List.replicate n false) ≤ 900000) :
    Calls Try.prog 20 #[rp rg, v] w fun e w' => ∃ v', e = .returned v' ∧ HOwn w' w.heap.size v' (ancs (gr T) E) ∧ Below w.heap.size w w' := by
  have RR := Lib.hid R
  have HE := Lib.hid hE
  have H3 := Lib.hid h32
  have HCL := Lib.hid hcl
  have HM := Lib.hid hM
  obtain ⟨pe, ce, rfl⟩ := hE.shape
  obtain ⟨ne, hne⟩ : ∃ ne, ne = E.length := ⟨_, rfl⟩
  rw [← hne] at HE ⊢
  have HNE := Lib.hid hne
  have hr1 := R.c
  obtain ⟨w1, hmk, hb1, bw1⟩ := made_bools w n (by rw [R.len]; exact Nat.le_trans R.few (by decide))
  have HB1 := Lib.hid hb1
  have BW1 := Lib.hid bw1
  clear R hE h32 hcl hM hne hb1 bw1
  go_enter Try.func20, Try.ntmps20
  go_wp2_with fail
  clear hmk hr1
  obtain ⟨a, haw⟩ : ∃ a, a = w.heap.size := ⟨_, rfl⟩
  rw [← haw] at HB1 ⊢
  have HAW := Lib.hid haw
  clear haw
  go_loopw [6, 7, 8] (fun v6 v7 v8 wr => ∃ (q : Option Addr) (m c i : Nat), v6 = .slice q m c ∧ v7 = .int .i64 i ∧ i ≤ ne ∧ Hid (∃ S, NStk wr a (.slice q m c) S ∧ m = S.length ∧ S.length ≤ i ∧ AI T (E.take i) (List.replicate n false) S) ∧ Hid (BAt wr a (List.replicate n false)) ∧ Hid (Below w.heap.size w wr)) (fun _ v7 _ _ => ne - (intOf v7).toNat)
  case atStart => exact ⟨none, 0, 0, 0, rfl, rfl, Nat.zero_le _, Lib.hid ⟨[], World.ownsRow_nil _ _ _ _, rfl, Nat.zero_le _, AI.start T n RR.out.len⟩, HB1, BW1⟩
  case round =>
    obtain ⟨q, m, c, i, rfl, rfl, hi, ST, HB, B⟩ := hrel
    by_cases hlt : i < ne
    · obtain ⟨j1, j2, j3⟩ := next_fit hlt (by have := HM.out; have := HNE.out; omega)
      have hiE : i < E.length := by rw [← HNE.out]; exact hlt
      obtain ⟨b, o, c', e1, hrg⟩ := (HE.out.mild (mild_below B.out)).at H3.out hiE
      injection e1 with e1 e2 e3
      subst e1
      have htk : E.take (i + 1) = E.take i ++ [E[i]] := List.take_succ_eq_append_getElem hiE
      obtain ⟨y, hy⟩ : ∃ y, y = E[i] := ⟨_, rfl⟩
      rw [← hy] at hrg htk
      have HY32 : Hid (y.length = 32) := Lib.hid (by rw [hy]; exact H3.out.at hiE)
      have hldy := hld_range HY32.out hrg
      have HTK := Lib.hid htk
      have HJ1 := Lib.hid j1
      have HIN := Lib.hid hlt
      obtain ⟨S, oS, hmS, hSl, hai⟩ := ST.out
      have OS := Lib.hid oS
      have HMS := Lib.hid hmS
      have HSL := Lib.hid hSl
      have HAI := Lib.hid hai
      clear hiE e2 e3 hy hrg hi ST oS hmS hSl hai htk
      go_wp2_with fail
      refine (rfind_to wr rg p n cap T y HY32.out (RR.out.kb B.out)).mono ?_
      rintro e w2 ⟨kk, rfl, hf, b2⟩
      have B2 := Lib.hid (B.out.trans (b2.mono B.out.size))
      have O2 := Lib.hid (own_below OS.out b2)
      have HB2 := Lib.hid (HB.out.mild (mild_below b2))
      clear b2 hldy
      rcases hf with ⟨k, rfl, hk⟩ | ⟨rfl, hn⟩
      · have HK := Lib.hid hk
        have hk1 : decide ((k : Int) ≥ 0) = true := decide_eq_true (by omega)
        have hk2 : decide (0 ≤ (k : Int)) = true := decide_eq_true (by omega)
        have AL := Lib.hid (below_al11 w2 (.cells #[.int .i64 k] 3))
        have O3 : Hid (NStk (w2.alloc (.cells #[.int .i64 k] 3)) a (.slice q m c) S) := Lib.hid (own_below O2.out AL.out)
        have HB3 := Lib.hid (HB2.out.mild (mild_below AL.out))
        have B3 := Lib.hid (B2.out.trans (AL.out.mono B2.out.size))
        clear hk
        go_wp2_with (at_builtin; refine push_nat rfl (.tmp 31) (.tmp 33) rfl a (.slice q m c) S w2.heap.size k rfl O3.out rfl (heap_alloc_last w2 _) (by have := HSL.out; have := HM.out; have := HNE.out; have := HIN.out; omega) (by rw [HAW.out]; exact B3.out.size) ?_; intro g4 c4 m4 w4 hm4 o4 oth4; have O4 := Lib.hid o4; have HM4 := Lib.hid hm4; have B4 := Lib.hid (B3.out.trans (oth4.below B3.out.size (fun k hk => by rw [← HAW.out]; exact own_from O3.out k hk))); have HB4 := Lib.hid (HB3.out.only oth4 (own_apart O3.out HB3.out (by decide))); clear o4 oth4 hm4)
        refine ⟨⟨some ⟨g4, 0, none⟩, m4, c4, i + 1, rfl, by rw [HJ1.out], HIN.out, Lib.hid ⟨S ++ [k], O4.out, by rw [HM4.out, List.length_append]; rfl, by rw [List.length_append, List.length_singleton]; exact Nat.succ_le_succ HSL.out, by rw [HTK.out]; exact HAI.out.ask RR.out.asc HK.out⟩, HB4, B4⟩, ?_⟩
        rw [HJ1.out]; simp only [intOf, Int.toNat_natCast]; exact Nat.sub_lt_sub_left HIN.out (Nat.lt_succ_self i)
      · have HN := Lib.hid hn
        clear hn
        go_wp2_with fail
        refine ⟨⟨q, m, c, i + 1, rfl, by rw [HJ1.out], HIN.out, Lib.hid ⟨S, O2.out, HMS.out, Nat.le_succ_of_le HSL.out, by rw [HTK.out]; exact HAI.out.askn HN.out⟩, HB2, B2⟩, ?_⟩
        rw [HJ1.out]; simp only [intOf, Int.toNat_natCast]; exact Nat.sub_lt_sub_left HIN.out (Nat.lt_succ_self i)
    · obtain rfl : i = ne := by omega
      have hl2 : decide ((i : Int) < i) = false := by simp
      clear hlt hi
      go_wp2_with fail
      clear hl2
      go_loopw [6, 9, 10] (fun v6 v9 v10 wz => ∃ (q : Option Addr) (m c : Nat), v6 = .slice q m c ∧ Hid (∃ L S, NStk wz a (.slice q m c) S ∧ m = S.length ∧ AI T E L S ∧ BAt wz a L ∧ S.length + left T L ≤ 900000) ∧ Hid (Below w.heap.size w wz)) (fun v6 _ _ wz => nlen v6 + left T (marks wz a))
      case atStart =>
        obtain ⟨S, h1, h2, h3, h4⟩ := ST.out
        refine ⟨q, m, c, rfl, Lib.hid ⟨_, S, h1, h2, ?_, HB.out, ?_⟩, B⟩
        · rw [HNE.out, List.take_length] at h4; exact h4
        · have := HM.out; have := HNE.out; omega
      case round =>
        clear ST HB B
        obtain ⟨q, m, c, rfl, ST, B⟩ := hrel
        rename World => wz
        obtain ⟨L, S, oS, hmS, hai, hbl, hle⟩ := ST.out
        have HAI := Lib.hid hai
        have HBL := Lib.hid hbl
        have HLE := Lib.hid hle
        have OS := Lib.hid oS
        have HR := Lib.hid (RR.out.kb B.out)
        clear ST
        cases m with
        | zero =>
          have hS : S = [] := List.eq_nil_of_length_eq_zero hmS.symm
          subst hS
          clear oS hmS hai hbl hle
          go_wp2_with fail
          refine (rsome_to wz rg p n cap T HR.out a n L HBL.out HAI.out.len).mono ?_
          rintro e w9 ⟨v9, rfl, o9, b9⟩
          rw [HAI.out.done RR.out.asc] at o9
          have O9 := Lib.hid o9
          have B9 := Lib.hid b9
          clear o9 b9
          go_wp2_with fail
          go_ret
          refine ⟨_, rfl, ⟨O9.out.1, O9.out.2.elim .inl (fun ⟨g, cp, cur, h1, h2, h3⟩ => .inr ⟨g, cp, cur, h1, Nat.le_trans B.out.size h2, h3⟩)⟩, B.out.trans (B9.out.mono B.out.size)⟩
        | succ m =>
          obtain ⟨S', k, rfl⟩ : ∃ S' k, S = S' ++ [k] := by
            have hne : S ≠ [] := fun e => by rw [e] at hmS; simp at hmS
            exact ⟨S.dropLast, S.getLast hne, (List.dropLast_concat_getLast hne).symm⟩
          obtain ⟨g, rfl, hcell, hmc, hmS'⟩ := oS.top
          obtain ⟨f1, f2, f3, f4⟩ := pop_fits (m := m) (by rw [List.length_append, List.length_singleton] at hle; omega)
          have HPOP := Lib.hid oS.pop
          have HMS := Lib.hid hmS'
          have hkT : k < T.length := hai.lt k (by simp)
          have hkL : k < L.length := by rw [hai.len]; exact hkT
          have hcb := hbl.at hkL
          have hk0 : (0 : Int) ≤ k := by omega
          have hkn : (k : Int) < n := by have := RR.out.len; omega
          have hr2 := HR.out.c
          obtain ⟨bk, hbk⟩ : ∃ bk, bk = L[k] := ⟨_, rfl⟩
          rw [← hbk] at hcb
          have HBK : Hid (L[k]? = some bk) := Lib.hid (by rw [List.getElem?_eq_getElem hkL, hbk])
          have HKT := Lib.hid hkT
          clear hkT hkL hbk oS hmS hmS' hai hbl hle OS
          cases bk with
          | true =>
            go_wp2_with fail
            refine ⟨⟨_, m, c, rfl, Lib.hid ⟨L, S', HPOP.out, HMS.out, HAI.out.pop HBK.out, HBL.out, by have := HLE.out; rw [List.length_append, List.length_singleton] at this; omega⟩, B⟩, ?_⟩
            simp only [nlen]; omega
          | false =>
            go_upto_region 13 with fail
            have hkT : k < T.length := HKT.out
            obtain ⟨b, o, cap', e1, hrg⟩ := RR.out.ts.at (List.getElem?_eq_getElem hkT)
            injection e1 with e1 e2 e3
            subst e1
            have hx32 := RR.out.ts.h32 T[k] (List.getElem_mem hkT)
            have hlit := RR.out.ts.lit T[k] (List.getElem_mem hkT)
            have hp32 := RR.out.p32 T[k] (List.getElem_mem hkT)
            obtain ⟨x, hx⟩ : ∃ x, x = T[k] := ⟨_, rfl⟩
            have HXK : Hid (T[k]? = some x) := Lib.hid (by rw [List.getElem?_eq_getElem hkT, hx])
            rw [← hx] at hrg hx32 hlit hp32
            have HRG := Lib.hid ((mild_below B.out).cells RR.out.cell)
            have HPC : Hid (∀ q ∈ x.2.2, (aget q T).isSome = true) := Lib.hid (fun q hq => by
              have := HCL.out x.1 q (by rw [at_adj RR.out.asc HXK.out]; exact hq)
              rw [gr_get] at this
              cases h9 : aget q T with
              | none => rw [h9] at this; cases this
              | some y => rfl)
            have HX32 := Lib.hid hx32
            have HP32 := Lib.hid hp32.1
            have HRX := Lib.hid hrg
            obtain ⟨pu, cu, hsh⟩ := hlit.shape
            obtain ⟨np, hnp⟩ : ∃ np, np = x.2.2.length := ⟨_, rfl⟩
            rw [← hnp] at hsh
            rw [hsh] at hlit HRX
            have HLT := Lib.hid hlit
            have HNP := Lib.hid hnp
            have hfz : wz.frozen? ⟨a, k, none⟩ = false := frozen_of_row _ _ _ _ _ HBL.out
            have OW : Only (fun j => j = a) wz (wz.setCell ⟨a, k, none⟩ (.bool true)) := (Only.refl (fun j => j = a) wz).setCell (p := ⟨a, k, none⟩) rfl _
            have HB5 := Lib.hid (HBL.out.set k true)
            have O5 : Hid (NStk (wz.setCell ⟨a, k, none⟩ (.bool true)) a (.slice (some ⟨g, 0, none⟩) m c) S') := Lib.hid (own_keep HPOP.out OW (fun j hj e => own_apart HPOP.out HBL.out (by decide) (by rw [hj, e])))
            have B5 : Hid (Below w.heap.size w (wz.setCell ⟨a, k, none⟩ (.bool true))) := Lib.hid (B.out.trans (OW.below B.out.size (fun j hj => by rw [hj, HAW.out]; exact Nat.le_refl _)))
            clear hkT hx hx32 hp32 hlit hrg hsh hnp e2 e3 OW hr2 hcell
            go_wp2_with fail
            have HBD : Hid (S'.length + np + left T (L.set k true) + 2 ≤ 900000) := Lib.hid (by
              have h1 := left_set HXK.out HBK.out
              have h2 := HLE.out
              rw [List.length_append, List.length_singleton] at h2
              have := HNP.out
              omega)
            have HLS : Hid (left T (L.set k true) + (np + 1) = left T L) := Lib.hid (by rw [HNP.out]; exact left_set HXK.out HBK.out)
            clear hfz hcb f1 f2 f3 f4
            generalize wz.setCell ⟨a, k, none⟩ (.bool true) = w5 at *
            go_loopw [6, 10] (fun v6 v10 wr => ∃ (q : Option Addr) (m2 c2 j : Nat), v6 = .slice q m2 c2 ∧ v10 = .int .i64 j ∧ j ≤ np ∧ Hid (∃ P, NStk wr a (.slice q m2 c2) (S' ++ P) ∧ m2 = S'.length + j ∧ P.length = j ∧ (∀ i ∈ P, ∃ p ∈ x.2.2, AtK T i p) ∧ (∀ p ∈ x.2.2.take j, ∃ i ∈ P, AtK T i p)) ∧ Hid (BAt wr a (L.set k true)) ∧ Hid (Below w.heap.size w wr)) (fun _ v10 _ => np - (intOf v10).toNat)
            case atStart => exact ⟨some ⟨g, 0, none⟩, m, c, 0, rfl, rfl, Nat.zero_le _, Lib.hid ⟨[], by rw [List.append_nil]; exact O5.out, HMS.out, rfl, by simp, by simp⟩, HB5, B5⟩
            case round =>
              obtain ⟨q, m2, c2, j, rfl, rfl, hj, PP, HBJ, C⟩ := hrel
              clear HB5 B5 O5
              rename World => wy
              have hr3 := (RR.out.kb C.out).c
              have hcu := cu_at' HX32.out (rng_kb HRX.out C.out)
              obtain ⟨P, oP, hm2, hPl, hP, hA⟩ := PP.out
              have OP := Lib.hid oP
              have HM2 := Lib.hid hm2
              have HPL := Lib.hid hPl
              have HPP := Lib.hid hP
              have HPA := Lib.hid hA
              clear oP hm2 hPl hP hA PP
              by_cases hjn : j < np
              · obtain ⟨k1, k2, k3⟩ := next_fit hjn (by have := HBD.out; omega)
                have hjE : j < x.2.2.length := by rw [← HNP.out]; exact hjn
                obtain ⟨bj, oj, cj, e1, hrj⟩ := (HLT.out.mild (mild_below C.out)).at HP32.out hjE
                injection e1 with e1 e2 e3
                subst e1
                have htk : x.2.2.take (j + 1) = x.2.2.take j ++ [x.2.2[j]] := List.take_succ_eq_append_getElem hjE
                have hym := List.getElem_mem hjE
                obtain ⟨y, hy⟩ : ∃ y, y = x.2.2[j] := ⟨_, rfl⟩
                rw [← hy] at hrj htk hym
                have HY32 : Hid (y.length = 32) := Lib.hid (by rw [hy]; exact HP32.out.at hjE)
                have hldy := hld_range HY32.out hrj
                have HTK := Lib.hid htk
                have HYM := Lib.hid hym
                have HK1 := Lib.hid k1
                have HJN := Lib.hid hjn
                clear hjE e2 e3 htk hym hy hrj hj
                go_wp2_with fail
                refine (rfind_to wy rg _ n cap T y HY32.out (RR.out.kb C.out)).mono ?_
                rintro e w3 ⟨kk, rfl, hf, b3⟩
                have C3 := Lib.hid (C.out.trans (b3.mono C.out.size))
                have O3 := Lib.hid (own_below OP.out b3)
                have HB3 := Lib.hid (HBJ.out.mild (mild_below b3))
                clear b3 hldy hr3 hcu
                rcases hf with ⟨i2, rfl, hi2⟩ | ⟨rfl, hn⟩
                · have HI2 := Lib.hid hi2
                  have AL := Lib.hid (below_al11 w3 (.cells #[.int .i64 i2] 3))
                  have O4 : Hid (NStk (w3.alloc (.cells #[.int .i64 i2] 3)) a (.slice q m2 c2) (S' ++ P)) := Lib.hid (own_below O3.out AL.out)
                  have HB4 := Lib.hid (HB3.out.mild (mild_below AL.out))
                  have C4 := Lib.hid (C3.out.trans (AL.out.mono C3.out.size))
                  clear hi2
                  go_wp2_with (at_builtin; refine push_nat rfl (.tmp 69) (.tmp 83) rfl a (.slice q m2 c2) (S' ++ P) w3.heap.size i2 rfl O4.out rfl (heap_alloc_last w3 _) (by have := HBD.out; have := HPL.out; have := HJN.out; rw [List.length_append]; omega) (by rw [HAW.out]; exact C4.out.size) ?_; intro g6 c6 m6 w6 hm6 o6 oth6; have O6 := Lib.hid o6; have HM6 := Lib.hid hm6; have C6 := Lib.hid (C4.out.trans (oth6.below C4.out.size (fun k hk => by rw [← HAW.out]; exact own_from O4.out k hk))); have HB6 := Lib.hid (HB4.out.only oth6 (own_apart O4.out HB4.out (by decide))); clear o6 oth6 hm6)
                  refine ⟨⟨some ⟨g6, 0, none⟩, m6, c6, j + 1, rfl, by rw [HK1.out], HJN.out, Lib.hid ⟨P ++ [i2], by rw [← List.append_assoc]; exact O6.out, by rw [HM6.out, List.length_append, HPL.out]; rfl, by rw [List.length_append, HPL.out]; rfl, fun i3 h3 => ?_, fun p3 h3 => ?_⟩, HB6, C6⟩, ?_⟩
                  · rcases List.mem_append.1 h3 with h3 | h3
                    · exact HPP.out i3 h3
                    · rw [List.mem_singleton.1 h3]; exact ⟨y, HYM.out, HI2.out⟩
                  · rw [HTK.out] at h3
                    rcases List.mem_append.1 h3 with h3 | h3
                    · obtain ⟨i4, h4, h5⟩ := HPA.out p3 h3
                      exact ⟨i4, by simp [h4], h5⟩
                    · rw [List.mem_singleton.1 h3]; exact ⟨i2, by simp, HI2.out⟩
                  · rw [HK1.out]; simp only [intOf, Int.toNat_natCast]; exact Nat.sub_lt_sub_left HJN.out (Nat.lt_succ_self j)
                · exfalso
                  have := HPC.out y HYM.out
                  rw [hn] at this; cases this
              · obtain rfl : j = np := by omega
                have hl3 : decide ((j : Int) < j) = false := by simp
                clear hjn hj
                go_wp2_with fail
                refine ⟨⟨q, m2, c2, rfl, Lib.hid ⟨L.set k true, S' ++ P, OP.out, by rw [List.length_append, HPL.out]; exact HM2.out, HAI.out.mark RR.out.asc HXK.out HPP.out (fun p3 h3 => HPA.out p3 (by rw [HNP.out, List.take_length]; exact h3)), HBJ.out, ?_⟩, C⟩, ?_⟩
                · rw [List.length_append, HPL.out]; have := HBD.out; omega
                · rw [HBJ.out.marks, HBL.out.marks, HM2.out]
                  simp only [nlen]
                  have := HLS.out
                  have := HMS.out
                  omega
end Go.Proofs.Ythfkmfepeafgjaa
namespace Go.Proofs.Ythfkmfepeafgjaa
open Go.RowKit
open Go.Maps

/-- How many are not marked. -/
def unm : List Bool → Nat
  | [] => 0
  | b :: L => (if b then 0 else 1) + unm L
theorem unm_set : ∀ {L : List Bool} {k : Nat}, L[k]? = some false → unm (L.set k true) + 1 = unm L
  | [], _, h => by simp at h
  | b :: L, 0, h => by
    simp at h
    subst h
    simp [unm]; omega
  | b :: L, k + 1, h => by
    have := unm_set (L := L) (k := k) (by simpa using h)
    simp only [List.set_cons_succ, unm]
    omega
/-- What holds while the descendants are marked. -/
structure DI (T : Lx) (E : List Key) (L : List Bool) : Prop where
  len : L.length = T.length
  snd : ∀ (k : Nat) (x : Key × (Value × List Key)), T[k]? = some x → L[k]? = some true → Dsc (gr T) E x.1
  all : ∀ (k : Nat) (x : Key × (Value × List Key)), T[k]? = some x → x.1 ∈ E → L[k]? = some true
theorem DI.start {T : Lx} {E : List Key} {L : List Bool} (ha : AAsc T) (hl : L.length = T.length) (h : ∀ (k : Nat) (x : Key × (Value × List Key)), T[k]? = some x → L[k]? = some (decide (x.1 ∈ E))) : DI T E L := by
  refine ⟨hl, fun k x hx hk => ?_, fun k x hx hE => by rw [h k x hx, decide_eq_true hE]⟩
  rw [h k x hx] at hk
  injection hk with hk
  obtain ⟨y, _, _, e⟩ := atk_get ha ⟨x, hx, rfl⟩
  exact ⟨x.1, of_decide_eq_true hk, by rw [gr_get, e]; rfl, .refl _⟩
theorem DI.mark {T : Lx} {E : List Key} {L : List Bool} (h : DI T E L) (ha : AAsc T) {k j : Nat} {x : Key × (Value × List Key)} {p : Key} (hx : T[k]? = some x) (hp : p ∈ x.2.2) (hj : AtK T j p) (hm : L[j]? = some true) : DI T E (L.set k true) := by
  have hkl : k < L.length := by rw [h.len]; exact (List.getElem?_eq_some_iff.1 hx).1
  refine ⟨by rw [List.length_set]; exact h.len, fun i y hy hi => ?_, fun i y hy hE => ?_⟩
  · by_cases e : i = k
    · subst e
      rw [hx] at hy
      injection hy with hy
      subst hy
      obtain ⟨z, hz, rfl⟩ := hj
      obtain ⟨a, h1, h2, h3⟩ := h.snd j z hz hm
      exact ⟨a, h1, h2, .step (by rw [at_adj ha hx]; exact hp) h3⟩
    · rw [List.getElem?_set_ne (fun h => e h.symm)] at hi
      exact h.snd i y hy hi
  · by_cases e : i = k
    · subst e; rw [List.getElem?_set_self hkl]
    · rw [List.getElem?_set_ne (fun h => e h.symm)]
      exact h.all i y hy hE
/-- Of the first i, none that is not marked has a parent that is. -/
def Clsd (T : Lx) (L : List Bool) (i : Nat) : Prop := ∀ (k : Nat) (x : Key × (Value × List Key)), k < i → T[k]? = some x → L[k]? = some false → ∀ p ∈ x.2.2, ∀ j, AtK T j p → L[j]? ≠ some true
theorem atk_of {T : Lx} {h : Key} (hs : (aget h (gr T)).isSome = true) : ∃ j, AtK T j h := by
  rw [gr_get] at hs
  cases hg : aget h T with
  | none => rw [hg] at hs; cases hs
  | some v =>
    obtain ⟨j, hj, e⟩ := List.mem_iff_getElem.1 (aget_mem hg)
    exact ⟨j, _, List.getElem?_eq_getElem hj, by rw [e]⟩
theorem DI.up {T : Lx} {E : List Key} {L : List Bool} (h : DI T E L) (ha : AAsc T) (hc : Clsd T L T.length) {x a : Key} (hu : Up (adj (gr T)) x a) : a ∈ E → (aget a (gr T)).isSome = true → ∀ k, AtK T k x → L[k]? = some true := by
  induction hu with
  | refl => rintro hE _ k ⟨y, hy, rfl⟩; exact h.all k y hy hE
  | step h1 hk ih =>
    rintro hE hs k ⟨y, hy, rfl⟩
    rw [at_adj ha hy] at h1
    obtain ⟨j, hj⟩ := atk_of (dsc_has ⟨_, hE, hs, hk⟩)
    have hm := ih hE hs j hj
    have hkl : k < L.length := by rw [h.len]; exact (List.getElem?_eq_some_iff.1 hy).1
    cases hb : L[k] with
    | true => rw [List.getElem?_eq_getElem hkl, hb]
    | false => exact absurd hm (hc k y (List.getElem?_eq_some_iff.1 hy).1 hy (by rw [List.getElem?_eq_getElem hkl, hb]) _ h1 j hj)
theorem DI.done {T : Lx} {E : List Key} {L : List Bool} (h : DI T E L) (ha : AAsc T) (hc : Clsd T L T.length) : selk (T.map (·.1)) L = descs (gr T) E := by
  have e : (gr T).map (·.1) = T.map (·.1) := by simp [gr, amap]
  unfold descs
  rw [e]
  refine selk_filter (Dsc (gr T) E) _ _ (by rw [List.length_map, h.len]) fun k h1 h2 => ?_
  have hk : k < T.length := by simpa using h1
  rw [List.getElem_map]
  have hx : T[k]? = some T[k] := List.getElem?_eq_getElem hk
  constructor
  · intro hb
    exact h.snd k _ hx (by rw [List.getElem?_eq_getElem h2, hb])
  · rintro ⟨a, hE, hs, hu⟩
    have := h.up ha hc hu hE hs k ⟨_, hx, rfl⟩
    rw [List.getElem?_eq_getElem h2] at this
    injection this
theorem Clsd.zero (T : Lx) (L : List Bool) : Clsd T L 0 := fun _ _ h => by omega
/-- What holds in the middle of a round over the commits: again tells whether a mark was set. -/
structure DM (T : Lx) (E : List Key) (L : List Bool) (b : Bool) (u i : Nat) : Prop where
  di : DI T E L
  le : unm L ≤ u
  lt : b = true → unm L < u
  cl : b = false → Clsd T L i
theorem DM.start {T : Lx} {E : List Key} {L : List Bool} (h : DI T E L) : DM T E L false (unm L) 0 := ⟨h, Nat.le_refl _, (fun h => by cases h), (fun _ => Clsd.zero T L)⟩
/-- The first j parents of commit i. -/
structure DJ (T : Lx) (E : List Key) (L : List Bool) (b : Bool) (u i j : Nat) (ps : List Key) : Prop where
  m : DM T E L b u i
  no : b = false → L[i]? = some false → ∀ p ∈ ps.take j, ∀ k, AtK T k p → L[k]? ≠ some true
theorem DJ.start {T : Lx} {E : List Key} {L : List Bool} {b : Bool} {u i : Nat} {ps : List Key} (h : DM T E L b u i) : DJ T E L b u i 0 ps := ⟨h, fun _ _ p hp => by simp at hp⟩
theorem DJ.next {T : Lx} {E : List Key} {L : List Bool} {b : Bool} {u i j : Nat} {ps : List Key} {y : Key} {k : Nat} (h : DJ T E L b u i j ps) (ha : AAsc T) (ht : ps.take (j + 1) = ps.take j ++ [y]) (hk : AtK T k y) (hm : L[k]? = some false) : DJ T E L b u i (j + 1) ps := by
  refine ⟨h.m, fun hb hi p hp k' hk' => ?_⟩
  rw [ht] at hp
  rcases List.mem_append.1 hp with hp | hp
  · exact h.no hb hi p hp k' hk'
  · rw [List.mem_singleton.1 hp] at hk'
    rw [atk_one ha hk' hk, hm]
    simp
theorem DJ.mark {T : Lx} {E : List Key} {L : List Bool} {b : Bool} {u i j : Nat} {x : Key × (Value × List Key)} {y : Key} {k : Nat} (h : DJ T E L b u i j x.2.2) (ha : AAsc T) (hx : T[i]? = some x) (hy : y ∈ x.2.2) (hi : L[i]? = some false) (hk : AtK T k y) (hm : L[k]? = some true) : DJ T E (L.set i true) true u i (j + 1) x.2.2 := by
  have hs := unm_set hi
  have := h.m.le
  exact ⟨⟨h.m.di.mark ha hx hy hk hm, by omega, fun _ => by omega, fun h => by cases h⟩, fun h => by cases h⟩
theorem DJ.done {T : Lx} {E : List Key} {L : List Bool} {b : Bool} {u i j : Nat} {x : Key × (Value × List Key)} (h : DJ T E L b u i j x.2.2) (hx : T[i]? = some x) (hd : L[i]? = some true ∨ x.2.2.length ≤ j) : DM T E L b u (i + 1) := by
  refine ⟨h.m.di, h.m.le, h.m.lt, fun hb k z hk hz hf p hp j' hj' => ?_⟩
  by_cases e : k = i
  · subst e
    rw [hx] at hz
    injection hz with hz
    subst hz
    rcases hd with hd | hd
    · rw [hf] at hd; cases hd
    · exact h.no hb hf p (by rw [List.take_of_length_le hd]; exact hp) j' hj'
  · exact h.m.cl hb k z (by omega) hz hf p hp j' hj'
def bnat : Value → Nat
  | .bool true => 1
  | _ => 0
theorem DM.meas {T : Lx} {E : List Key} {L : List Bool} {b : Bool} {u i : Nat} (h : DM T E L b u i) : 2 * unm L + bnat (.bool b) < 2 * u + 1 := by
  have := h.le
  cases b with
  | true => have := h.lt rfl; simp only [bnat]; omega
  | false => simp only [bnat]; omega
end Go.Proofs.Ythfkmfepeafgjaa
namespace Go.Proofs.Ythfkmfepeafgjaa
open Go.RowKit
open Go.Maps

theorem frz_b {w : World} {a : Nat} {L : List Bool} (h : BAt w a L) (i : Nat) : w.frozen? ⟨a, i, none⟩ = false := frozen_of_row _ _ _ _ _ h
theorem bset_below {w0 w : World} {a : Nat} (i : Nat) (b : Bool) {B : Nat} (h : Below B w0 w) (hB : B ≤ w0.heap.size) (ha : B ≤ a) : Below B w0 (w.setCell ⟨a, i, none⟩ (.bool b)) := h.trans (((Only.refl (fun j => j = a) w).setCell (p := ⟨a, i, none⟩) rfl _).below (Nat.le_trans hB h.size) (fun j hj => by rw [hj]; exact ha))
end Go.Proofs.Ythfkmfepeafgjaa
