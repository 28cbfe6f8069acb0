/- Steps of chapter 6 that came in, each with its bytes' length under reach. No condition. -/
import Derived.Test.YtemfblhlkonlpaaDoorDskSt3
import Derived.SizedLaws
namespace Go.Proofs.YtemfblhlkonlpaaDoor
open Go.RowKit Go.ChangeShapes Go.WideShapes Go.Deep

theorem rowBytes4 : Tryd.prog.bytesOf 5 = 1 := by kernel_rfl
theorem weightsAll_mem4 {H : Type} {P : Program} {e : TypeId} : ∀ {l : List (DataW H)} {d : DataW H}, d ∈ l → ∀ n ∈ d.weights P e, n ∈ DataW.weightsAll P e l
  | x :: r, d, h, n, hn => by
    have e : DataW.weightsAll P e (x :: r) = x.weights P e ++ DataW.weightsAll P e r := by rw [DataW.weightsAll]
    rw [e]
    rcases List.mem_cons.1 h with rfl | h
    · exact List.mem_append_left _ hn
    · exact List.mem_append_right _ (weightsAll_mem4 h n hn)
theorem weights_step4 {H : Type} (x0 x1 x2 x3 x4 : DataW H) (es rest : List (DataW H)) : es.length + rest.length ∈ (DataW.agg [x0, x1, x2, x3, x4, .slice es rest]).weights Tryd.prog 82 := by
  rw [DataW.weights, Tryd.underlying82]
  simp only [List.map, DataW.weightsEach]
  refine List.mem_append_right _ (List.mem_append_right _ (List.mem_append_right _ (List.mem_append_right _ (List.mem_append_right _ (List.mem_append_left _ ?_)))))
  rw [DataW.weights, Tryd.underlying70]
  simp only [rowBytes4, Nat.mul_one]
  exact List.mem_cons_self
theorem weights_steps4 {H : Type} (elems rest : List (DataW H)) : ∀ n ∈ DataW.weightsAll Tryd.prog 82 elems, n ∈ (DataW.slice elems rest).weights Tryd.prog 79 := by
  intro n hn
  rw [DataW.weights, Tryd.underlying79]
  exact List.mem_cons_of_mem _ (List.mem_append_left _ hn)
theorem step_four {H : Type} {enc : TypeId × Value → H} {w : World} {base : Nat} {spare : Nat → Bool} {held : Bool} {cs : List Value} {fuel : Nat} {x : DataW H × List MemPlace}
    (h : DataW.trod enc Tryd.prog w base spare held fuel 82 cs = some x) : ∃ (m n : Int) (q : Option Addr) (l : List Int) (c : Nat) (z2 z3 z4 : Value), cs = [.int .i64 m, .int .i64 n, z2, z3, z4, .slice q l.length c] ∧ Seen w (.slice q l.length c) l ∧
      ((∀ k ∈ x.1.weights Tryd.prog 82, k ≤ reachBytes) → l.length ≤ 140737488351232) := by
  obtain ⟨xs, n', _, hxx, hl, hxl, hf⟩ := DataW.trod_struct Tryd.underlying82 h
  rw [stepCells3] at hl
  obtain ⟨z0, z1, z2, z3, z4, z5, rfl⟩ := six_of hl
  have hx6 : xs.length = 6 := hxl
  obtain ⟨y0, y1, y2, y3, y4, y5, rfl⟩ : ∃ a b c d e f, xs = [a, b, c, d, e, f] := by
    match xs, hx6 with
    | [a, b, c, d, e, f], _ => exact ⟨a, b, c, d, e, f, rfl⟩
  have f0 : DataW.trod enc Tryd.prog w base spare held n' 3 ((List.drop 0 [z0, z1, z2, z3, z4, z5]).take (Tryd.prog.cellsOf 3)) = some y0 := hf 0 _ rfl
  have f1 : DataW.trod enc Tryd.prog w base spare held n' 3 ((List.drop 1 [z0, z1, z2, z3, z4, z5]).take (Tryd.prog.cellsOf 3)) = some y1 := hf 1 _ rfl
  have f5 : DataW.trod enc Tryd.prog w base spare held n' 70 ((List.drop 5 [z0, z1, z2, z3, z4, z5]).take (Tryd.prog.cellsOf 70)) = some y5 := hf 5 _ rfl
  simp only [intCells3, rowCells3, List.drop_zero, List.drop_succ_cons, List.take_succ_cons, List.take_zero] at f0 f1 f5
  obtain ⟨m, e0, _, _⟩ := DataW.trod_int Tryd.underlying3 f0
  obtain ⟨n, e1, _, _⟩ := DataW.trod_int Tryd.underlying3 f1
  simp at e0 e1
  subst e0 e1
  obtain ⟨q, n0, c0, rfl⟩ : ∃ q n c, z5 = .slice q n c := by
    rcases open_slice Tryd.underlying70 f5 with ⟨h1, _⟩ | ⟨a', l', c', _, _, _, _, h1, _⟩
    · simp at h1; exact ⟨_, _, _, h1⟩
    · simp at h1; exact ⟨_, _, _, h1⟩
  obtain ⟨d5, p5⟩ := y5
  obtain ⟨x5, hx5, _, hs, hd⟩ := bytes_in f5
  subst hx5
  refine ⟨m, n, q, x5, c0, z2, z3, z4, rfl, hs, fun hw => ?_⟩
  rcases hd with h0 | ⟨rest, hd⟩
  · omega
  · subst hd
    have b1 : (lits (H := H) .u8 x5).length + rest.length ≤ reachBytes := hw _ (by
      rw [hxx]
      exact weights_step4 _ _ _ _ _ _ _)
    rw [show reachBytes = 140737488351232 from rfl] at b1
    simp only [lits, List.length_map] at b1
    omega
set_option maxRecDepth 20000 in
theorem sps_full {H : Type} {enc : TypeId × Value → H} {w : World} {base : Nat} {spare : Nat → Bool} {held : Bool} {a0 : Option Addr} {len cap fuel : Nat} {d : DataW H} {p : List MemPlace}
    (h : DataW.trod enc Tryd.prog w base spare held fuel 79 [.slice a0 len cap] = some (d, p)) (hb : ∀ n ∈ d.weights Tryd.prog 79, n ≤ reachBytes) : ∃ E : List Sp, E.length = len ∧ SpSeen w a0 E ∧ ∀ (j : Nat) (x : Sp), E[j]? = some x → x.b.length ≤ 140737488351232 := by
  rcases open_slice Tryd.underlying79 h with ⟨h1, h2⟩ | ⟨a, len', cap', m, n, D, Pl, hcs, hb0, hl, hm, hmm, hx, hi⟩
  · simp at h1
    obtain ⟨rfl, rfl, rfl⟩ := h1
    exact ⟨[], rfl, (fun j x hj => by simp at hj), fun j x hj => by simp at hj⟩
  · simp at hcs
    obtain ⟨rfl, rfl, rfl⟩ := hcs
    simp at hx
    obtain ⟨f, hf⟩ := choose_lt (n := len) (α := Sp) (p := fun i x => (∃ b o, a = ⟨b, o, none⟩ ∧ w.cell? ⟨b, o + i * 6, none⟩ = some (.int .i64 x.what) ∧ w.cell? ⟨b, o + i * 6 + 1, none⟩ = some (.int .i64 x.name) ∧ w.cell? ⟨b, o + i * 6 + 5, none⟩ = some (.slice x.q x.b.length x.c) ∧ Seen w (.slice x.q x.b.length x.c) x.b) ∧ x.b.length ≤ 140737488351232) (fun i hil => by
      have him : i < m := by rw [hmm]; split <;> omega
      obtain ⟨cs, h3, h4⟩ := hi i him
      rw [stepCells3] at h3
      obtain ⟨_, hcl, hat⟩ := World.cells?_some h3
      obtain ⟨wt, nm, q, l, c, z2, z3, z4, rfl, hs, hlen⟩ := step_four h4
      have g0 := hat 0 (by omega)
      have g1 := hat 1 (by omega)
      have g5 := hat 5 (by omega)
      rw [add_add] at g0 g1 g5
      obtain ⟨b, o, sp⟩ := a
      have hsp : sp = none := by
        obtain ⟨cs0, h30, h40⟩ := hi 0 (by omega)
        rw [stepCells3] at h30
        obtain ⟨_, _, hat0⟩ := World.cells?_some h30
        obtain ⟨wt0, _, _, _, _, _, _, _, rfl, _⟩ := step_four h40
        have g1 := hat0 0 (by omega)
        rw [add_add, List.getElem?_cons_zero] at g1
        have g2 := World.cell?_spot g1
        rw [show (0 : Nat) * 6 + 0 = 0 from rfl] at g2
        simpa [Addr.add] using g2
      subst hsp
      rw [Addr.add_lit] at g0 g1 g5
      simp only [List.getElem?_cons_zero, List.getElem?_cons_succ, Nat.add_zero] at g0 g1 g5
      refine ⟨⟨wt, nm, q, c, l⟩, ⟨b, o, rfl, g0, by rw [Nat.add_assoc]; exact g1, by rw [Nat.add_assoc]; exact g5, hs⟩, ?_⟩
      refine hlen (fun k hk => hb k ?_)
      rw [hx.1]
      refine weights_steps4 _ _ _ (weightsAll_mem4 ?_ _ hk)
      exact List.mem_of_getElem? (i := i) (by simp [hil]))
    refine ⟨(List.range len).map f, by simp, (fun j x hj => ?_), fun j x hj => ?_⟩
    · have hjl := (List.getElem?_eq_some_iff.1 hj).1
      simp at hjl
      obtain ⟨⟨b, o, rfl, h1⟩, _⟩ := hf j hjl
      simp [hjl] at hj
      subst hj
      exact ⟨b, o, rfl, h1⟩
    · have hjl := (List.getElem?_eq_some_iff.1 hj).1
      simp at hjl
      have h2 := (hf j hjl).2
      simp [hjl] at hj
      subst hj
      exact h2
end Go.Proofs.YtemfblhlkonlpaaDoor
