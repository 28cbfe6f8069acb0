/- Remove. Conditions: the numbers are no greater than a program's may be. -/
import Derived.Test.YtcolkgeflokgeaaDoorDskE
namespace Go.Proofs.YtcolkgeflokgeaaDoor
open Go.RowKit
open Go.Maps

def St.remove (s : St) (n : Key) : Int × St :=
  if ¬ okName n = true then (1, s) else if s.dead = true then (7, s) else if (aget n s.files).isSome = false then (11, s) else s.work ⟨3, n, [], [], 0⟩
/-- The end of a work that removes a file. -/
theorem end_drop {w W5 W6 : World} {B b : Nat} {S : Nat → Prop} {s : St} {c c5 : Cst} {L L5 : List (Key × Ent)} {P : List Chg} {k : Wk} {g : Chg} {m : Key} (hx : DSx w B b S s c L P) (h0 : ¬ s.fuse = 0)
    (hd5 : DAt W5 b c5) (hm5 : MAt W5 c5.mb L5) (hp5 : PAt W5 B c5.pv (P ++ [g])) (ho5 : Own W5 B (adel m L5) (P ++ [g])) (hsep : ∀ k, cnt k (adel m L5) (P ++ [g]) ≤ 1) (hasc : AAsc L5) (hused : c5.used = (tot L5 : Int)) (hl : L5.length < 2000000000)
    (e0 : c5.mb = c.mb) (e1 : c5.room = c.room) (e2 : c5.fuse = c.pass.fuse) (e3 : c5.dead = c.dead) (e4 : c5.works = c.pass.works) (hd : DAt W6 b { c5 with used := c5.used - (bytesAt m L5).length }) (hm : MAt W6 c5.mb (adel m L5)) (ho : Only (fun k => k = b ∨ k = c5.mb) W5 W6)
    (honly : Only (Foot b c L P) w W5) (hft : ∀ j, (0 < cnt j (adel m L5) (P ++ [g]) ∨ c5.pv.ownBlock = some j) → Foot b c L P j ∨ w.heap.size ≤ j)
    (hf : Fits s.files k) (hc : Ch s.files k g) (ht : totF (turn s.files k) ≤ 16777216) (hmn : (turn s.files k).length ≤ s.works + 1) (hfb : fb (adel m L5) = turn s.files k) : (s.work k).1 = 0 ∧ DPost w B b S (s.work k).2 W6 := by
  have hdc : DC W6 B b { c5 with used := c5.used - (bytesAt m L5).length } (adel m L5) (P ++ [g]) (P ++ [g]) := {
    d := hd
    m := hm
    p := own_kept hp5 ho fun k hk e => by
      rcases e with rfl | rfl
      · exact pv_apart' hd5 hp5 _ hk rfl
      · obtain ⟨cs, hcs⟩ := own_type hp5 hk
        obtain ⟨es, clock, h1⟩ := hm5.obj
        rw [h1] at hcs
        cases hcs
    own := ho5.kept ho fun k hk e => by
      rcases e with rfl | rfl
      · exact own_ne ho5 hd5 hk rfl
      · exact own_nm ho5 hm5 hk rfl
    sep := hsep
    asc := hasc.del m
    used := by
      have h1 := tot_del m hasc
      simp only at h1 ⊢
      omega
    bb := hx.dc.bb
    bm := by rw [show ({ c5 with used := c5.used - ((bytesAt m L5).length : Int) } : Cst).mb = c.mb from e0]; exact hx.dc.bm
    many := by have := adel_length m L5; omega }
  refine dsx_worked hx h0 hdc hf hc ht hmn hfb e1 e2 e3 e4 ?_ ?_
  · exact honly.trans ho (fun _ h => h) (fun k _ e => by
      rcases e with rfl | rfl
      · exact .inl rfl
      · exact .inr (.inl e0))
  · intro j hj
    rcases hj with e | e | e | e
    · exact .inl (.inl e)
    · exact .inl (.inr (.inl (by rw [← e0]; exact e)))
    · exact hft j (.inr e)
    · exact hft j (.inl e)
end Go.Proofs.YtcolkgeflokgeaaDoor
