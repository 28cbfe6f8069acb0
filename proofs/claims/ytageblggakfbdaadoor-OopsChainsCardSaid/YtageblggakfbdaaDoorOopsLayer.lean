/- How a slice of layers that came in is read: each layer's two numbers and its name. Each name has at most 2^47 - 4096 letters. -/
import Derived.Test.YtageblggakfbdaaDoorGenBulk
import Derived.Deep.Slices
import Derived.Deep.Fields
import Derived.ChangeSame
import Derived.OpenShut
namespace Go.Proofs.YtageblggakfbdaaDoor
open Go.RowKit Go.ChangeShapes Go.WideShapes Go.Deep

/-- Layer i of the slice at ao: its three cells. -/
def LayerAt (w : World) (ao : Option Addr) (i : Nat) (W N : Int) (s : ByteArray) : Prop :=
  ∃ b o, ao = some ⟨b, o, none⟩ ∧ b < w.heap.size ∧ w.cell? ⟨b, o + i * 3, none⟩ = some (.int .i64 W) ∧ w.cell? ⟨b, o + i * 3 + 1, none⟩ = some (.int .i64 N) ∧ w.cell? ⟨b, o + i * 3 + 2, none⟩ = some (.string s)
theorem LayerAt.kb {w w' : World} {ao : Option Addr} {i : Nat} {W N : Int} {s : ByteArray} (h : LayerAt w ao i W N s) (hb : Below w.heap.size w w') : LayerAt w' ao i W N s := by
  obtain ⟨b, o, rfl, hlt, h0, h1, h2⟩ := h
  have k : ∀ j u, w.cell? ⟨b, j, none⟩ = some u → w'.cell? ⟨b, j, none⟩ = some u := fun j u hu => by
    rw [World.cell?_of_block (w := w) (a := ⟨b, j, none⟩) (hb.block _ hlt)]; exact hu
  exact ⟨b, o, rfl, Nat.lt_of_lt_of_le hlt hb.size, k _ _ h0, k _ _ h1, k _ _ h2⟩

theorem layerFields : Tryd.prog.underlying 50 = some (.struct #[{ name := "What", type := 3, offset := 0, embedded := false, tag := "", pkgPath := "", byteOffset := 0 }, { name := "N", type := 3, offset := 1, embedded := false, tag := "", pkgPath := "", byteOffset := 8 }, { name := "Name", type := 9, offset := 2, embedded := false, tag := "", pkgPath := "", byteOffset := 16 }]) := by kernel_rfl
theorem layerCells : Tryd.prog.cellsOf 50 = 3 := by kernel_rfl
theorem intCells : Tryd.prog.cellsOf 3 = 1 := by kernel_rfl
theorem strCells : Tryd.prog.cellsOf 9 = 1 := by kernel_rfl
theorem three_of {l : List Value} (h : l.length = 3) : ∃ a b c, l = [a, b, c] := by
  match l, h with
  | [a, b, c], _ => exact ⟨a, b, c, rfl⟩

section
variable {H : Type} {enc : TypeId × Value → H} {w : World} {base : Nat} {spare : Nat → Bool} {held : Bool}
set_option maxRecDepth 20000 in
theorem open_layers {a0 : Option Addr} {len cap fuel : Nat} {d : DataW H} {p : List MemPlace} (h : DataW.trod enc Tryd.prog w base spare held fuel 47 [.slice a0 len cap] = some (d, p)) :
    (len ≤ cap ∧ len ≤ 9223372036854775807) ∧ (a0 = none ∧ len = 0 ∧ cap = 0 ∧ d = .nil ∨ ∃ elems rest, d = .slice elems rest ∧ elems.length = len ∧ ∀ i, i < len → ∃ (W N : Int) (s : ByteArray) (x0 x1 : DataW H), LayerAt w a0 i W N s ∧
      (Lit.int .i64 W).wf = true ∧ (Lit.int .i64 N).wf = true ∧ elems[i]? = some (.agg [x0, x1, .lit (.string s.data.toList)])) := by
  rcases open_slice Tryd.underlying47 h with ⟨h1, h2⟩ | ⟨a, len', cap', m, n, D, Pl, hcs, hb, hl, hm, hmm, hx, hi⟩
  · simp at h1
    simp at h2
    exact ⟨⟨by omega, by omega⟩, .inl ⟨h1.1, h1.2.1, h1.2.2, h2.1⟩⟩
  · simp at hcs
    obtain ⟨rfl, rfl, rfl⟩ := hcs
    simp at hx
    refine ⟨⟨hl, by unfold maxLen at hm; omega⟩, .inr ⟨_, _, hx.1, by simp, fun i hil => ?_⟩⟩
    have him : i < m := by rw [hmm]; split <;> omega
    obtain ⟨cs, h3, h4⟩ := hi i him
    rw [layerCells] at h3
    obtain ⟨hbase, hcl, hat⟩ := World.cells?_some h3
    obtain ⟨c0, c1, c2, rfl⟩ := three_of hcl
    obtain ⟨xs, n', hn', hy, _, hxl, hf⟩ := DataW.trod_struct layerFields h4
    have f0 : DataW.trod enc Tryd.prog w base spare held n' 3 ((List.drop 0 [c0, c1, c2]).take (Tryd.prog.cellsOf 3)) = xs[0]? := hf 0 _ rfl
    have f1 : DataW.trod enc Tryd.prog w base spare held n' 3 ((List.drop 1 [c0, c1, c2]).take (Tryd.prog.cellsOf 3)) = xs[1]? := hf 1 _ rfl
    have f2 : DataW.trod enc Tryd.prog w base spare held n' 9 ((List.drop 2 [c0, c1, c2]).take (Tryd.prog.cellsOf 9)) = xs[2]? := hf 2 _ rfl
    simp only [intCells, strCells, List.drop_zero, List.drop_succ_cons, List.take_succ_cons, List.take_zero] at f0 f1 f2
    have hxl3 : xs.length = 3 := hxl
    match xs, hxl3 with
    | [y0, y1, y2], _ =>
      simp only [List.getElem?_cons_zero, List.getElem?_cons_succ] at f0 f1 f2
      obtain ⟨W, e0, _, w0⟩ := DataW.trod_int Tryd.underlying3 f0
      obtain ⟨N, e1, _, w1⟩ := DataW.trod_int Tryd.underlying3 f1
      obtain ⟨S, e2, hx2, _⟩ := DataW.trod_string Tryd.underlying9 f2
      simp only [List.cons.injEq, and_true] at e0 e1 e2
      subst e0 e1 e2
      have g0 := hat 0 (by omega)
      have g1 := hat 1 (by omega)
      have g2 := hat 2 (by omega)
      rw [add_add] at g0 g1 g2
      obtain ⟨b, o, sp⟩ := a
      have hsp : sp = none := by
        obtain ⟨cs0, h30, _⟩ := hi 0 (by omega)
        rw [layerCells] at h30
        obtain ⟨_, hcl0, hat0⟩ := World.cells?_some h30
        obtain ⟨z0, z1, z2, rfl⟩ := three_of hcl0
        have := hat0 0 (by omega)
        rw [add_add] at this
        simpa [Addr.add] using World.cell?_spot this
      subst hsp
      simp only [Addr.add_lit, List.getElem?_cons_zero, List.getElem?_cons_succ, Nat.add_zero] at g0 g1 g2
      have hlt := World.block_lt_of_cell? w _ g0
      simp at hy
      refine ⟨W, N, S, y0.1, y1.1, ⟨b, o, rfl, hlt, g0, g1, g2⟩, w0, w1, ?_⟩
      simp [hil, hy.1, hx2]
end

/-- A layer whose name is not too long. -/
def FullLayer (w : World) (ao : Option Addr) (i : Nat) (W N : Int) (s : ByteArray) : Prop := LayerAt w ao i W N s ∧ s.size ≤ 140737488351232

theorem weightsAll_mem {H : Type} {P : Program} {e : TypeId} : ∀ {l : List (DataW H)} {d : DataW H}, d ∈ l → ∀ n ∈ d.weights P e, n ∈ DataW.weightsAll P e l
  | x :: r, d, h, n, hn => by
    have e : DataW.weightsAll P e (x :: r) = x.weights P e ++ DataW.weightsAll P e r := by rw [DataW.weightsAll]
    rw [e]
    rcases List.mem_cons.1 h with rfl | h
    · exact List.mem_append_left _ hn
    · exact List.mem_append_right _ (weightsAll_mem h n hn)
theorem weights_string {H : Type} {P : Program} {t : TypeId} (s : List UInt8) : (DataW.lit (H := H) (.string s)).weights P t = [s.length] := by rw [DataW.weights]
theorem weights_layer {H : Type} (x0 x1 : DataW H) (s : List UInt8) : s.length ∈ (DataW.agg [x0, x1, .lit (.string s)]).weights Tryd.prog 50 := by
  rw [DataW.weights, Tryd.underlying50]
  simp [DataW.weightsEach, weights_string]
theorem weights_layers {H : Type} (elems rest : List (DataW H)) : ∀ n ∈ DataW.weightsAll Tryd.prog 50 elems, n ∈ (DataW.slice elems rest).weights Tryd.prog 47 := by
  intro n hn
  rw [DataW.weights, Tryd.underlying47]
  exact List.mem_cons_of_mem _ (List.mem_append_left _ hn)

theorem layers_full {H : Type} {enc : TypeId × Value → H} {w : World} {base : Nat} {spare : Nat → Bool} {held : Bool} {a0 : Option Addr} {len cap fuel : Nat} {d : DataW H} {p : List MemPlace}
    (h : DataW.trod enc Tryd.prog w base spare held fuel 47 [.slice a0 len cap] = some (d, p)) (hb : ∀ n ∈ d.weights Tryd.prog 47, n ≤ reachBytes) :
    len ≤ 9223372036854775807 ∧ ∃ (W N : Nat → Int) (S : Nat → ByteArray), ∀ i, i < len → FullLayer w a0 i (W i) (N i) (S i) := by
  obtain ⟨⟨_, hm⟩, hs⟩ := open_layers h
  refine ⟨hm, ?_⟩
  rcases hs with ⟨_, hl, _⟩ | ⟨elems, rest, rfl, _, he⟩
  · exact ⟨fun _ => 0, fun _ => 0, fun _ => ⟨#[]⟩, fun i hi => by omega⟩
  · have hex : ∀ i, i < len → ∃ x : Int × Int × ByteArray, FullLayer w a0 i x.1 x.2.1 x.2.2 := by
      intro i hi
      obtain ⟨W, N, s, x0, x1, hst, _, _, hel⟩ := he i hi
      refine ⟨(W, N, s), hst, ?_⟩
      have b1 := hb _ (weights_layers elems rest _ (weightsAll_mem (List.mem_of_getElem? hel) _ (weights_layer x0 x1 s.data.toList)))
      rw [show reachBytes = 140737488351232 from rfl] at b1
      have e : s.data.toList.length = s.size := Array.length_toList
      show s.size ≤ 140737488351232
      omega
    obtain ⟨f, hf⟩ := choose_lt hex
    exact ⟨fun i => (f i).1, fun i => (f i).2.1, fun i => (f i).2.2, hf⟩
end Go.Proofs.YtageblggakfbdaaDoor
