/- Descendants. Conditions: hashes of 32 bytes; no more than 1000 commits, whose parents are there, none of them twice; no more than a million hashes asked. · Copy. -/
import Derived.Test.YthfkmfepeafgjaaGreatDoorGphD
import Derived.Shelf.SlMaps.Clone
import Derived.Shelf.SlGeneric
import Derived.Shelf.Lay
namespace Go.Proofs.YthfkmfepeafgjaaGreatDoor
open Go.RowKit
open Go.Maps
def Tryz.gclone_ren : Go.Shelf.Ren := ⟨fun | 5 => 53 | 7 => 66 | n => n, fun | 23 => 65 | 25 => 40 | 3 => 31 | 4 => 4 | 20 => 20 | n => n, fun | n => n⟩
theorem Tryz.gclone : Go.Proofs.SlLaysW.n5 Tryz.prog Tryz.gclone_ren := {
  mixed := by kernel_rfl
  f5 := ⟨Tryz.f53.name, by decide, Tryz.func53.trans (congrArg some (by kernel_rfl))⟩
  f7 := Tryz.func66.trans (congrArg some (by kernel_rfl))
  t4 := Tryz.underlying4
  a4 := Tryz.isAgg4
  z4 := Tryz.sizeOf4
  v4 := Tryz.zeroValue4
  t20 := Tryz.underlying20
  a20 := Tryz.isAgg20
  z20 := Tryz.sizeOf20
  v20 := Tryz.zeroValue20
  t23 := Tryz.underlying65
  a23 := Tryz.isAgg65
  z23 := Tryz.sizeOf65
  v23 := Tryz.zeroValue65 }

theorem up_rev {f g : Key → List Key} (h : ∀ p x, x ∈ f p ↔ p ∈ g x) {a b : Key} (k : Up f a b) : Up g b a := by
  induction k with
  | refl => exact .refl _
  | step h1 _ ih => exact ih.snoc ((h _ _).1 h1)
def Dsc (G : Gr) (E : List Key) (x : Key) : Prop := ∃ a ∈ E, (aget a G).isSome = true ∧ Up (adj G) x a
open Classical in
/-- The descendants of some hashes, and they. -/
noncomputable def descs (G : Gr) (E : List Key) : List Key := (G.map (·.1)).filter fun x => decide (Dsc G E x)
theorem dsc_has {G : Gr} {E : List Key} {x : Key} (h : Dsc G E x) : (aget x G).isSome = true := by
  obtain ⟨a, _, ha, hu⟩ := h
  cases hu with
  | refl => exact ha
  | step h1 _ => exact adj_has h1
theorem descs_mem {G : Gr} {E : List Key} {x : Key} : x ∈ descs G E ↔ Dsc G E x := by
  unfold descs
  simp only [List.mem_filter, mem_keys, decide_eq_true_eq]
  exact ⟨fun h => h.2, fun h => ⟨dsc_has h, h⟩⟩
theorem descs_asc {G : Gr} (ha : AAsc G) (E : List Key) : Asc (descs G E) := List.Pairwise.filter _ (aasc_asc ha)
theorem descs_len (G : Gr) (E : List Key) : (descs G E).length ≤ G.length := by
  unfold descs
  exact Nat.le_trans (List.length_filter_le _ _) (by simp)
set_option maxRecDepth 20000 in
set_option maxHeartbeats 4000000 in
theorem descendants_to (w : World) (g bm : Nat) (X : Lx) (v : Value) (E : List Key) (H : GA w g bm X) (hE : HSeen w v E) (h32 : H32 E) (hEl : E.length ≤ 1000000) (hX : X.length ≤ 1000) (hc : Clo (gr X)) (hn : ∀ x ∈ X, x.2.2.Nodup ∧ x.2.2.length ≤ 1000) :
    Calls Tryz.prog 24 #[gp g, v] w fun e w' => ∃ v', e = .returned v' ∧ HOwn w' w.heap.size v' (descs (gr X) E) ∧ Below w.heap.size w w' := by
  have HCh := Lib.hid (children_to w g bm X H hX hc hn)
  have HG := Lib.hid H
  have HE := Lib.hid hE
  have H3 := Lib.hid h32
  have HEl := Lib.hid hEl
  have HXl := Lib.hid hX
  have HA := Lib.hid (gr_asc H.at_.mp.asc)
  have HUl : Hid (((gr X).map (·.1)).length ≤ 1000) := Lib.hid (by rw [List.length_map, gr_len]; exact hX)
  obtain ⟨p, cap, rfl⟩ := hE.shape
  clear H hE h32 hEl hX hc hn
  go_enter Tryz.func24, Tryz.ntmps24
  go_wp2_with fail
  refine HCh.out.mono ?_
  rintro e w1 ⟨b, C, rfl, hC, hb, hm, hl, b1⟩
  have B1 := Lib.hid b1
  have HC := Lib.hid hC
  have HM := Lib.hid hm
  have HL : Hid (∀ x ∈ C, x.2.2.length ≤ 1000) := Lib.hid (fun x hx => Nat.le_trans (hl x hx) (by rw [gr_len]; exact HXl.out))
  have HX1 := Lib.hid (existing_to w1 g bm X _ E (HG.out.kb b1) (HE.out.mild (mild_below b1)) H3.out HEl.out (Nat.le_trans HXl.out (by decide)))
  clear hC hb hm hl b1
  go_wp2_with fail
  refine HX1.out.mono ?_
  rintro e w2 ⟨b2, R, rfl, hS, _, hR, hRl, bb2⟩
  have B2 : Hid (Below w.heap.size w w2) := Lib.hid (B1.out.trans (bb2.mono B1.out.size))
  have HC2 := Lib.hid (HC.out.kb bb2)
  have HR := Lib.hid hR
  have HRl : Hid (R.length ≤ 1000) := Lib.hid (by have := HUl.out; rw [List.length_map] at this; omega)
  have H32R := Lib.hid (h32_set hS)
  have HS2 := Lib.hid (sorted_to w2 b2 R (by have := HRl.out; omega) hS)
  clear hS hR hRl bb2
  go_wp2_with fail
  refine HS2.out.mono ?_
  rintro e w3 ⟨v3, rfl, o3, b3⟩
  have B3 : Hid (Below w.heap.size w w3) := Lib.hid (B2.out.trans (b3.mono B2.out.size))
  have HRe := Lib.hid (reach_to w3 b C v3 R ((gr X).map (·.1)) (HC2.out.kb b3) (HSeen.own o3) H32R.out (Nat.le_trans HRl.out (by decide)) (Nat.le_trans HUl.out (by decide))
    (fun x hx => mem_keys.2 ((HR.out x).1 hx).2) (fun x p hp => mem_keys.2 (adj_has ((HM.out x p).1 hp))) HL.out)
  obtain ⟨p3, c3, rfl⟩ := (HSeen.own o3).shape
  clear o3 b3
  go_wp2_with fail
  refine HRe.out.mono ?_
  rintro e w4 ⟨b4, R', rfl, hS, _, hR, hRl, bb4⟩
  have B4 : Hid (Below w.heap.size w w4) := Lib.hid (B3.out.trans (bb4.mono B3.out.size))
  have HR' : Hid (R' = descs (gr X) E) := Lib.hid (by
    refine asc_ext _ _ (setH_asc hS) (descs_asc HA.out E) fun x => ?_
    rw [hR, descs_mem]
    constructor
    · rintro ⟨a, h1, h2⟩; exact ⟨a, ((HR.out a).1 h1).1, ((HR.out a).1 h1).2, up_rev HM.out h2⟩
    · rintro ⟨a, h1, h2, h3⟩; exact ⟨a, (HR.out a).2 ⟨h1, h2⟩, up_rev (fun p x => (HM.out x p).symm) h3⟩)
  have HS4 := Lib.hid (sorted_to w4 b4 R' (by have := HUl.out; omega) hS)
  clear hS hR hRl bb4
  go_wp2_with fail
  refine HS4.out.mono ?_
  rintro e w5 ⟨v5, rfl, o5, b5⟩
  rw [HR'.out] at o5
  have B5 : Hid (Below w.heap.size w w5) := Lib.hid (B4.out.trans (b5.mono B4.out.size))
  have O5 := Lib.hid (own_lower o5 B4.out.size)
  clear o5 b5
  go_wp2
  go_ret
  exact ⟨_, rfl, O5.out, B5.out⟩

/-- Copy. -/
theorem copy_to (w : World) (g bm : Nat) (X : Lx) (H : GA w g bm X) : Calls Tryz.prog 26 #[gp g] w fun e w' => ∃ g', e = .returned (gp g') ∧ w.heap.size ≤ g' ∧ GA w' g' w.heap.size X ∧ Below w.heap.size w w' := by
  have c0 := H.c0
  have HO := Lib.hid (AnyW.maps_Clone_owns Tryz.gclone 40 rdv bm (kvs X).length (mapV (kvs X)) w H.at_.mp.own)
  have HG := Lib.hid H
  clear H
  go_enter Tryz.func26, Tryz.ntmps26
  go_wp2_with fail
  refine HO.out.mono ?_
  rintro e w1 ⟨rfl, o1, o2, b1⟩
  have B1 := Lib.hid b1
  have HN : Hid (GA (w1.alloc (.cells #[.map (some w.heap.size)] 67)) w1.heap.size w.heap.size X) := Lib.hid
    ⟨heap_alloc_last w1 _, (LAt.kb ⟨MpH.of o1 HG.out.at_.mp.asc HG.out.at_.mp.h32, fun x hx => ⟨(HG.out.at_.seen x hx).1.mild (mild_below b1), (HG.out.at_.seen x hx).2⟩⟩ ((Below.refl _ w1).alloc (Nat.le_refl _) _))⟩
  clear o1 o2 b1
  go_wp2
  go_ret
  exact ⟨_, rfl, B1.out.size, HN.out, B1.out.alloc B1.out.size _⟩
end Go.Proofs.YthfkmfepeafgjaaGreatDoor
