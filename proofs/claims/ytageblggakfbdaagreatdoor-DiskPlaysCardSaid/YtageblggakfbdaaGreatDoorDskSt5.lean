/- Steps of chapter 6 that came in, all that each says, each with its bytes' length under reach. No condition. -/
import Derived.Test.YtageblggakfbdaaGreatDoorGenIn
import Derived.Deep.Slices
import Derived.Deep.Fields
import Derived.ChangeSame
import Derived.OpenShut
import Derived.SizedLaws
namespace Go.Proofs.YtageblggakfbdaaGreatDoor
open Go.RowKit Go.ChangeShapes Go.WideShapes Go.Deep

theorem stepCells5 : Tryz.prog.cellsOf 31 = 6 := by kernel_rfl
theorem intCells5 : Tryz.prog.cellsOf 3 = 1 := by kernel_rfl
theorem rowCells5 : Tryz.prog.cellsOf 29 = 1 := by kernel_rfl
theorem rowBytes5 : Tryz.prog.bytesOf 5 = 1 := by kernel_rfl
theorem six_of5 {l : List Value} (h : l.length = 6) : ∃ a b c d e f, l = [a, b, c, d, e, f] := by
  match l, h with
  | [a, b, c, d, e, f], _ => exact ⟨a, b, c, d, e, f, rfl⟩
theorem weightsAll_mem5 {H : Type} {P : Program} {e : TypeId} : ∀ {l : List (DataW H)} {d : DataW H}, d ∈ l → ∀ n ∈ d.weights P e, n ∈ DataW.weightsAll P e l
  | x :: r, d, h, n, hn => by
    have e : DataW.weightsAll P e (x :: r) = x.weights P e ++ DataW.weightsAll P e r := by rw [DataW.weightsAll]
    rw [e]
    rcases List.mem_cons.1 h with rfl | h
    · exact List.mem_append_left _ hn
    · exact List.mem_append_right _ (weightsAll_mem5 h n hn)
theorem weights_step5 {H : Type} (x0 x1 x2 x3 x4 : DataW H) (es rest : List (DataW H)) : es.length + rest.length ∈ (DataW.agg [x0, x1, x2, x3, x4, .slice es rest]).weights Tryz.prog 31 := by
  rw [DataW.weights, Tryz.underlying31]
  simp only [List.map, DataW.weightsEach]
  refine List.mem_append_right _ (List.mem_append_right _ (List.mem_append_right _ (List.mem_append_right _ (List.mem_append_right _ (List.mem_append_left _ ?_)))))
  rw [DataW.weights, Tryz.underlying29]
  simp only [rowBytes5, Nat.mul_one]
  exact List.mem_cons_self
theorem weights_steps5 {H : Type} (elems rest : List (DataW H)) : ∀ n ∈ DataW.weightsAll Tryz.prog 31 elems, n ∈ (DataW.slice elems rest).weights Tryz.prog 22 := by
  intro n hn
  rw [DataW.weights, Tryz.underlying22]
  exact List.mem_cons_of_mem _ (List.mem_append_left _ hn)
structure Sf where
  what : Int
  name : Int
  to : Int
  n : Int
  cut : Int
  q : Option Addr
  c : Nat
  b : List Int
instance : Inhabited Sf := ⟨⟨0, 0, 0, 0, 0, none, 0, []⟩⟩
def Sf.row (x : Sf) : List Value := [.int .i64 x.what, .int .i64 x.name, .int .i64 x.to, .int .i64 x.n, .int .i64 x.cut, .slice x.q x.b.length x.c]
theorem step_five {H : Type} {enc : TypeId × Value → H} {w : World} {base : Nat} {spare : Nat → Bool} {held : Bool} {cs : List Value} {fuel : Nat} {x : DataW H × List MemPlace}
    (h : DataW.trod enc Tryz.prog w base spare held fuel 31 cs = some x) : ∃ y : Sf, cs = y.row ∧ Seen w (.slice y.q y.b.length y.c) y.b ∧
      ((∀ k ∈ x.1.weights Tryz.prog 31, k ≤ reachBytes) → y.b.length ≤ 140737488351232) := by
  obtain ⟨xs, n', _, hxx, hl, hxl, hf⟩ := DataW.trod_struct Tryz.underlying31 h
  rw [stepCells5] at hl
  obtain ⟨z0, z1, z2, z3, z4, z5, rfl⟩ := six_of5 hl
  have hx6 : xs.length = 6 := hxl
  obtain ⟨y0, y1, y2, y3, y4, y5, rfl⟩ : ∃ a b c d e f, xs = [a, b, c, d, e, f] := by
    match xs, hx6 with
    | [a, b, c, d, e, f], _ => exact ⟨a, b, c, d, e, f, rfl⟩
  have f0 : DataW.trod enc Tryz.prog w base spare held n' 3 ((List.drop 0 [z0, z1, z2, z3, z4, z5]).take (Tryz.prog.cellsOf 3)) = some y0 := hf 0 _ rfl
  have f1 : DataW.trod enc Tryz.prog w base spare held n' 3 ((List.drop 1 [z0, z1, z2, z3, z4, z5]).take (Tryz.prog.cellsOf 3)) = some y1 := hf 1 _ rfl
  have f2 : DataW.trod enc Tryz.prog w base spare held n' 3 ((List.drop 2 [z0, z1, z2, z3, z4, z5]).take (Tryz.prog.cellsOf 3)) = some y2 := hf 2 _ rfl
  have f3 : DataW.trod enc Tryz.prog w base spare held n' 3 ((List.drop 3 [z0, z1, z2, z3, z4, z5]).take (Tryz.prog.cellsOf 3)) = some y3 := hf 3 _ rfl
  have f4 : DataW.trod enc Tryz.prog w base spare held n' 3 ((List.drop 4 [z0, z1, z2, z3, z4, z5]).take (Tryz.prog.cellsOf 3)) = some y4 := hf 4 _ rfl
  have f5 : DataW.trod enc Tryz.prog w base spare held n' 29 ((List.drop 5 [z0, z1, z2, z3, z4, z5]).take (Tryz.prog.cellsOf 29)) = some y5 := hf 5 _ rfl
  simp only [intCells5, rowCells5, List.drop_zero, List.drop_succ_cons, List.take_succ_cons, List.take_zero] at f0 f1 f2 f3 f4 f5
  obtain ⟨m0, e0, _, _⟩ := DataW.trod_int Tryz.underlying3 f0
  obtain ⟨m1, e1, _, _⟩ := DataW.trod_int Tryz.underlying3 f1
  obtain ⟨m2, e2, _, _⟩ := DataW.trod_int Tryz.underlying3 f2
  obtain ⟨m3, e3, _, _⟩ := DataW.trod_int Tryz.underlying3 f3
  obtain ⟨m4, e4, _, _⟩ := DataW.trod_int Tryz.underlying3 f4
  simp at e0 e1 e2 e3 e4
  subst e0 e1 e2 e3 e4
  obtain ⟨q, n0, c0, rfl⟩ : ∃ q n c, z5 = .slice q n c := by
    rcases open_slice Tryz.underlying29 f5 with ⟨h1, _⟩ | ⟨a', l', c', _, _, _, _, h1, _⟩
    · simp at h1; exact ⟨_, _, _, h1⟩
    · simp at h1; exact ⟨_, _, _, h1⟩
  obtain ⟨d5, p5⟩ := y5
  obtain ⟨x5, hx5, _, hs, hd⟩ := bytes_in f5
  subst hx5
  refine ⟨⟨m0, m1, m2, m3, m4, q, c0, x5⟩, rfl, hs, fun hw => ?_⟩
  rcases hd with h0 | ⟨rest, hd⟩
  · show x5.length ≤ _; omega
  · subst hd
    have b1 : (lits (H := H) .u8 x5).length + rest.length ≤ reachBytes := hw _ (by
      rw [hxx]
      exact weights_step5 _ _ _ _ _ _ _)
    rw [show reachBytes = 140737488351232 from rfl] at b1
    simp only [lits, List.length_map] at b1
    show x5.length ≤ _
    omega
/-- The steps of the slice at p. -/
def SfSeen (w : World) (p : Option Addr) (E : List Sf) : Prop := ∀ j x, E[j]? = some x → ∃ b o, p = some ⟨b, o, none⟩ ∧ (∀ i u, x.row[i]? = some u → w.cell? ⟨b, o + j * 6 + i, none⟩ = some u) ∧ Seen w (.slice x.q x.b.length x.c) x.b
set_option maxRecDepth 20000 in
theorem sfs_full {H : Type} {enc : TypeId × Value → H} {w : World} {base : Nat} {spare : Nat → Bool} {held : Bool} {a0 : Option Addr} {len cap fuel : Nat} {d : DataW H} {p : List MemPlace}
    (h : DataW.trod enc Tryz.prog w base spare held fuel 22 [.slice a0 len cap] = some (d, p)) (hb : ∀ n ∈ d.weights Tryz.prog 22, n ≤ reachBytes) : ∃ E : List Sf, E.length = len ∧ SfSeen w a0 E ∧ ∀ (j : Nat) (x : Sf), E[j]? = some x → x.b.length ≤ 140737488351232 := by
  rcases open_slice Tryz.underlying22 h with ⟨h1, h2⟩ | ⟨a, len', cap', m, n, D, Pl, hcs, hb0, hl, hm, hmm, hx, hi⟩
  · simp at h1
    obtain ⟨rfl, rfl, rfl⟩ := h1
    exact ⟨[], rfl, (fun j x hj => by simp at hj), fun j x hj => by simp at hj⟩
  · simp at hcs
    obtain ⟨rfl, rfl, rfl⟩ := hcs
    simp at hx
    obtain ⟨f, hf⟩ := choose_lt (n := len) (α := Sf) (p := fun i x => (∃ b o, a = ⟨b, o, none⟩ ∧ (∀ k u, x.row[k]? = some u → w.cell? ⟨b, o + i * 6 + k, none⟩ = some u) ∧ Seen w (.slice x.q x.b.length x.c) x.b) ∧ x.b.length ≤ 140737488351232) (fun i hil => by
      have him : i < m := by rw [hmm]; split <;> omega
      obtain ⟨cs, h3, h4⟩ := hi i him
      rw [stepCells5] at h3
      obtain ⟨_, hcl, hat⟩ := World.cells?_some h3
      obtain ⟨y, rfl, hs, hlen⟩ := step_five h4
      obtain ⟨b, o, sp⟩ := a
      have hsp : sp = none := by
        obtain ⟨cs0, h30, h40⟩ := hi 0 (by omega)
        rw [stepCells5] at h30
        obtain ⟨_, _, hat0⟩ := World.cells?_some h30
        obtain ⟨y0, rfl, _⟩ := step_five h40
        have g1 := hat0 0 (by omega)
        rw [add_add, Sf.row, List.getElem?_cons_zero] at g1
        have g2 := World.cell?_spot g1
        rw [show (0 : Nat) * 6 + 0 = 0 from rfl] at g2
        simpa [Addr.add] using g2
      subst hsp
      refine ⟨y, ⟨b, o, rfl, fun k u hk => ?_, hs⟩, ?_⟩
      · have hk6 : k < 6 := (List.getElem?_eq_some_iff.1 hk).1
        have g0 := hat k hk6
        rw [add_add, Addr.add_lit, hk] at g0
        rw [Nat.add_assoc]
        exact g0
      · refine hlen (fun k hk => hb k ?_)
        rw [hx.1]
        refine weights_steps5 _ _ _ (weightsAll_mem5 ?_ _ hk)
        exact List.mem_of_getElem? (i := i) (by simp [hil]))
    refine ⟨(List.range len).map f, by simp, (fun j x hj => ?_), fun j x hj => ?_⟩
    · have hjl := (List.getElem?_eq_some_iff.1 hj).1
      simp at hjl
      obtain ⟨⟨b, o, rfl, h1⟩, _⟩ := hf j hjl
      simp [hjl] at hj
      subst hj
      exact ⟨b, o, rfl, h1⟩
    · have hjl := (List.getElem?_eq_some_iff.1 hj).1
      simp at hjl
      have h2 := (hf j hjl).2
      simp [hjl] at hj
      subst hj
      exact h2
end Go.Proofs.YtageblggakfbdaaGreatDoor
