/- Descendants. Conditions: hashes of 32 bytes; no more than 1000 commits, whose parents are there, none of them twice; no more than a million hashes asked. · Copy. -/
import Derived.Test.YthfkmfepeafgjaaGphD
import Derived.Shelf.SlMaps.Clone
import Derived.Shelf.SlGeneric
import Derived.Shelf.Lay
namespace Go.Proofs.Ythfkmfepeafgjaa
open Go.RowKit
open Go.Maps
def Try.gclone_ren : Go.Shelf.Ren := ⟨fun | 5 => 46 | 7 => 66 | n => n, fun | 23 => 81 | 25 => 28 | 3 => 25 | 4 => 4 | 20 => 20 | n => n, fun | n => n⟩
theorem Try.gclone : Go.Proofs.SlLaysW.n5 Try.prog Try.gclone_ren := {
  mixed := by kernel_rfl
  f5 := ⟨Try.f46.name, by decide, Try.func46.trans (congrArg some (by kernel_rfl))⟩
  f7 := Try.func66.trans (congrArg some (by kernel_rfl))
  t4 := Try.underlying4
  a4 := Try.isAgg4
  z4 := Try.sizeOf4
  v4 := Try.zeroValue4
  t20 := Try.underlying20
  a20 := Try.isAgg20
  z20 := Try.sizeOf20
  v20 := Try.zeroValue20
  t23 := Try.underlying81
  a23 := Try.isAgg81
  z23 := Try.sizeOf81
  v23 := Try.zeroValue81 }

theorem up_rev {f g : Key → List Key} (h : ∀ p x, x ∈ f p ↔ p ∈ g x) {a b : Key} (k : Up f a b) : Up g b a := by
  induction k with
  | refl => exact .refl _
  | step h1 _ ih => exact ih.snoc ((h _ _).1 h1)
def Dsc (G : Gr) (E : List Key) (x : Key) : Prop := ∃ a ∈ E, (aget a G).isSome = true ∧ Up (adj G) x a
open Classical in
/-- The descendants of some hashes, and they. -/
noncomputable def descs (G : Gr) (E : List Key) : List Key := (G.map (·.1)).filter fun x => decide (Dsc G E x)
theorem dsc_has {G : Gr} {E : List Key} {x : Key} (h : Dsc G E x) : (aget x G).isSome = true := by
  obtain ⟨a, _, ha, hu⟩ := h
  cases hu with
  | refl => exact ha
  | step h1 _ => exact adj_has h1
theorem descs_mem {G : Gr} {E : List Key} {x : Key} : x ∈ descs G E ↔ Dsc G E x := by
  unfold descs
  simp only [List.mem_filter, mem_keys, decide_eq_true_eq]
  exact ⟨fun h => h.2, fun h => ⟨dsc_has h, h⟩⟩
theorem descs_asc {G : Gr} (ha : AAsc G) (E : List Key) : Asc (descs G E) := List.Pairwise.filter _ (aasc_asc ha)
theorem descs_len (G : Gr) (E : List Key) : (descs G E).length ≤ G.length := by
  unfold descs
  exact Nat.le_trans (List.length_filter_le _ _) (by simp)
/-- Copy. -/
theorem copy_to (w : World) (g bm : Nat) (X : Lx) (H : GA w g bm X) : Calls Try.prog 29 #[gp g] w fun e w' => ∃ g', e = .returned (gp g') ∧ w.heap.size ≤ g' ∧ GA w' g' w.heap.size X ∧ Below w.heap.size w w' := by
  have c0 := H.c0
  have HO := Lib.hid (AnyW.maps_Clone_owns Try.gclone 28 rdv bm (kvs X).length (mapV (kvs X)) w H.at_.mp.own)
  have HG := Lib.hid H
  clear H
  go_enter Try.func29, Try.ntmps29
  go_wp2_with fail
  refine HO.out.mono ?_
  rintro e w1 ⟨rfl, o1, o2, b1⟩
  have B1 := Lib.hid b1
  have HN : Hid (GA (w1.alloc (.cells #[.map (some w.heap.size)] 83)) w1.heap.size w.heap.size X) := Lib.hid
    ⟨heap_alloc_last w1 _, (LAt.kb ⟨MpH.of o1 HG.out.at_.mp.asc HG.out.at_.mp.h32, fun x hx => ⟨(HG.out.at_.seen x hx).1.mild (mild_below b1), (HG.out.at_.seen x hx).2⟩⟩ ((Below.refl _ w1).alloc (Nat.le_refl _) _))⟩
  clear o1 o2 b1
  go_wp2
  go_ret
  exact ⟨_, rfl, B1.out.size, HN.out, B1.out.alloc B1.out.size _⟩
end Go.Proofs.Ythfkmfepeafgjaa
