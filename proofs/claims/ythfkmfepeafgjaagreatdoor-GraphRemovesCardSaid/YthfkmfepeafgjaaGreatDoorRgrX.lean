/- What GraphRemoves asks beside GraphPlays: graphs without some commits; slices of slices of numbers that came in. No condition. -/
import Derived.Test.YthfkmfepeafgjaaGreatDoorRgrW
import Derived.Test.YthfkmfepeafgjaaGreatDoorGphIn
namespace Go.Proofs.YthfkmfepeafgjaaGreatDoor
open Go.RowKit Go.ChangeShapes Go.WideShapes Go.Deep
open Go.Maps

theorem rm1_none {E : List Key} : ∀ {G : Gr}, rm1 E G = none → ∀ c ∈ G, c.1 ∉ E → ∀ p ∈ c.2, p ∉ E
  | [], _, _, hc => by cases hc
  | d :: G, h, c, hc => by
    rw [rm1] at h
    by_cases h1 : d.1 ∈ E
    · rw [if_pos h1] at h
      rcases List.mem_cons.1 hc with rfl | hc
      · exact fun h2 => absurd h1 h2
      · exact rm1_none h c hc
    · rw [if_neg h1] at h
      by_cases h2 : anyIn d.2 E = true
      · rw [if_pos h2] at h; cases h
      · rw [if_neg h2] at h
        rcases List.mem_cons.1 hc with rfl | hc
        · intro _ p hp hE
          refine h2 ?_
          unfold anyIn
          rw [List.any_eq_true]
          exact ⟨p, hp, decide_eq_true hE⟩
        · exact rm1_none h c hc
theorem rm1_kind {E : List Key} : ∀ {G : Gr} (k : Int) (o : Option Key), rm1 E G = some (k, o) → k ≠ 0 ∧ ∃ h, o = some h ∧ h ∈ G.map (·.1)
  | [], _, _, h => by cases h
  | d :: G, k, o, h => by
    rw [rm1] at h
    by_cases h1 : d.1 ∈ E
    · rw [if_pos h1] at h
      obtain ⟨h3, x, h4, h5⟩ := rm1_kind k o h
      exact ⟨h3, x, h4, List.mem_cons_of_mem _ h5⟩
    · rw [if_neg h1] at h
      by_cases h2 : anyIn d.2 E = true
      · rw [if_pos h2] at h
        injection h with h
        injection h with h3 h4
        exact ⟨by omega, d.1, h4.symm, by simp⟩
      · rw [if_neg h2] at h
        obtain ⟨h3, x, h4, h5⟩ := rm1_kind k o h
        exact ⟨h3, x, h4, List.mem_cons_of_mem _ h5⟩
theorem mem_rmv {E : List Key} {G : Gr} {c : Cm} : c ∈ rmv E G ↔ c ∈ G ∧ c.1 ∉ E := by
  unfold rmv
  rw [List.mem_filter]
  simp
theorem rmv_asc {E : List Key} {G : Gr} (h : AAsc G) : AAsc (rmv E G) := List.Pairwise.filter _ h
theorem rmv_adj {E : List Key} {G : Gr} (ha : AAsc G) {x p : Key} (h : p ∈ adj (rmv E G) x) : p ∈ adj G x ∧ x ∉ E := by
  obtain ⟨ps, e1, e2⟩ := adj_some h
  obtain ⟨h1, h2⟩ := mem_rmv.1 (aget_mem e1)
  refine ⟨?_, h2⟩
  unfold adj
  rw [aget_of_mem ha h1]
  exact e2
theorem rmv_wf {E : List Key} {G : Gr} (W : Wf G) (h : rm1 E G = none) : Wf (rmv E G) := by
  refine ⟨rmv_asc W.asc, fun c hc => W.h32 c (mem_rmv.1 hc).1, fun c hc => W.par c (mem_rmv.1 hc).1, fun k p hp => ?_, fun x p hp hu => ?_, Nat.le_trans (List.length_filter_le _ _) W.few⟩
  · obtain ⟨h1, h2⟩ := rmv_adj W.asc hp
    have h3 := W.clo k p h1
    obtain ⟨ps, e1, e2⟩ := adj_some h1
    have h4 := rm1_none h _ (aget_mem e1) h2 p e2
    cases hg : aget p G with
    | none => rw [hg] at h3; cases h3
    | some v =>
      have := aget_of_mem (rmv_asc (E := E) W.asc) (mem_rmv.2 ⟨aget_mem hg, h4⟩)
      rw [this]; rfl
  · exact W.acy x p (rmv_adj W.asc hp).1 (up_mono (fun y q hq => (rmv_adj W.asc hq).1) hu)
theorem rm1_32 {E : List Key} {G : Gr} (W : Wf G) : R32 (rm1 E G) := by
  cases h : rm1 E G with
  | none => rfl
  | some x =>
    obtain ⟨k, o⟩ := x
    obtain ⟨_, y, rfl, hy⟩ := rm1_kind k o h
    obtain ⟨c, hc, rfl⟩ := List.mem_map.1 hy
    exact r32_some (W.h32 c hc).1
theorem rm1_who {E : List Key} {G : Gr} : (kindOf (rm1 E G) != 0) = whoB (rm1 E G) := by
  cases h : rm1 E G with
  | none => rfl
  | some x =>
    obtain ⟨k, o⟩ := x
    obtain ⟨h1, y, rfl, _⟩ := rm1_kind k o h
    show (k != 0) = true
    simp [h1]
/-- What the graph is behind Remove. -/
def aft (E : List Key) (G : Gr) : Gr := if (rm1 E G).isSome then G else rmv E G
theorem aft_wf {E : List Key} {G : Gr} (W : Wf G) : Wf (aft E G) := by
  unfold aft
  cases h : rm1 E G with
  | none => exact rmv_wf W h
  | some x => exact W
theorem RremPost.all {w w' : World} {rg : Nat} {p : Option Addr} {n c : Nat} {T : Lx} {E : List Key} {e : Ending} (R : RG w rg p n c T) (h : RremPost w rg T E e w') :
    e = .returned (.tuple #[.int .i64 (kindOf (rm1 E (gr T))), .agg (hv (whoH (rm1 E (gr T))))]) ∧ Only (fun j => j = rg) w w' ∧ ∃ p' n' c' T', RG w' rg p' n' c' T' ∧ gr T' = aft E (gr T) := by
  rcases h with ⟨x, h1, h2, h3⟩ | ⟨h1, h2, h3, p', n', c', T', h4, h5⟩
  · refine ⟨by rw [h1]; exact h2, Only.of_below h3, p, n, c, T, R.kb h3, ?_⟩
    unfold aft; rw [h1]; rfl
  · refine ⟨by rw [h1]; exact h2, h3, p', n', c', T', h4, ?_⟩
    unfold aft; rw [h1]; exact h5
/-- The slices of numbers of the slice at p. -/
def IIs (w : World) (p : Option Addr) (E : List (Value × List Int)) : Prop := ∀ (j : Nat) (x : Value × List Int), E[j]? = some x → ∃ b o, p = some ⟨b, o, none⟩ ∧ w.cell? ⟨b, o + j, none⟩ = some x.1 ∧ ISeen w x.1 x.2
theorem IIs.get {w W : World} {p : Option Addr} {E : List (Value × List Int)} (h : IIs w p E) (k : Below w.heap.size w W) {i : Nat} (hi : i < E.length) : ∃ b o, p = some ⟨b, o, none⟩ ∧ W.cell? ⟨b, o + i, none⟩ = some E[i].1 ∧ ISeen w E[i].1 E[i].2 := by
  obtain ⟨b, o, h1, h2, h3⟩ := h i _ (List.getElem?_eq_getElem hi)
  exact ⟨b, o, h1, (mild_below k).cell h2, h3⟩
theorem is_cells {H : Type} {enc : TypeId × Value → H} {w : World} {base : Nat} {spare : Nat → Bool} {held : Bool} {cs : List Value} {fuel : Nat} {x : DataW H × List MemPlace}
    (hl : cs.length = 1) (h : DataW.trod enc Tryz.prog w base spare held fuel 23 cs = some x) : ∃ y : Value × List Int, cs = [y.1] ∧ ISeen w y.1 y.2 := by
  obtain ⟨z, rfl⟩ : ∃ z, cs = [z] := by
    match cs, hl with
    | [z], _ => exact ⟨z, rfl⟩
  obtain ⟨q, n, c, rfl⟩ : ∃ q n c, z = .slice q n c := by
    rcases open_slice Tryz.underlying23 h with ⟨h1, _⟩ | ⟨a', l', c', _, _, _, _, h1, _⟩
    · simp at h1; exact ⟨_, _, _, h1⟩
    · simp at h1; exact ⟨_, _, _, h1⟩
  obtain ⟨d, p⟩ := x
  obtain ⟨l, _, hs⟩ := ints_in h
  exact ⟨⟨_, l⟩, rfl, hs⟩
set_option maxRecDepth 20000 in
theorem iis_in {H : Type} {enc : TypeId × Value → H} {w : World} {base : Nat} {spare : Nat → Bool} {held : Bool} {a0 : Option Addr} {len cap fuel : Nat} {d : DataW H} {p : List MemPlace}
    (h : DataW.trod enc Tryz.prog w base spare held fuel 59 [.slice a0 len cap] = some (d, p)) : ∃ E : List (Value × List Int), E.length = len ∧ IIs w a0 E := by
  rcases open_slice Tryz.underlying59 h with ⟨h1, h2⟩ | ⟨a, len', cap', m, n, D, Pl, hcs, hb0, hl, hm, hmm, hx, hi⟩
  · simp at h1
    obtain ⟨rfl, rfl, rfl⟩ := h1
    exact ⟨[], rfl, (fun j x hj => by simp at hj)⟩
  · simp at hcs
    obtain ⟨rfl, rfl, rfl⟩ := hcs
    obtain ⟨f, hf⟩ := choose_lt (n := len) (α := Value × List Int) (p := fun i x => ∃ b o, a = ⟨b, o, none⟩ ∧ w.cell? ⟨b, o + i, none⟩ = some x.1 ∧ ISeen w x.1 x.2) (fun i hil => by
      have him : i < m := by rw [hmm]; split <;> omega
      obtain ⟨cs, h3, h4⟩ := hi i him
      rw [isCells] at h3
      obtain ⟨_, hcl, hat⟩ := World.cells?_some h3
      obtain ⟨y, rfl, hs⟩ := is_cells hcl h4
      obtain ⟨b, o, sp⟩ := a
      have g0 := hat 0 (by omega)
      rw [add_add, List.getElem?_cons_zero, Nat.mul_one, Nat.add_zero] at g0
      have hsp : sp = none := by
        obtain ⟨cs0, h30, h40⟩ := hi 0 (by omega)
        rw [isCells] at h30
        obtain ⟨_, hcl0, hat0⟩ := World.cells?_some h30
        obtain ⟨y0, rfl, _⟩ := is_cells hcl0 h40
        have g1 := hat0 0 (by omega)
        rw [add_add, List.getElem?_cons_zero] at g1
        have g2 := World.cell?_spot g1
        rw [show (0 : Nat) * 1 + 0 = 0 from rfl] at g2
        simpa [Addr.add] using g2
      subst hsp
      refine ⟨y, b, o, rfl, ?_, hs⟩
      rw [Addr.add_lit] at g0
      exact g0)
    refine ⟨(List.range len).map f, by simp, (fun j x hj => ?_)⟩
    have hjl := (List.getElem?_eq_some_iff.1 hj).1
    simp at hjl
    obtain ⟨b, o, rfl, h1⟩ := hf j hjl
    simp [hjl] at hj
    subst hj
    exact ⟨b, o, rfl, h1⟩
end Go.Proofs.YthfkmfepeafgjaaGreatDoor
