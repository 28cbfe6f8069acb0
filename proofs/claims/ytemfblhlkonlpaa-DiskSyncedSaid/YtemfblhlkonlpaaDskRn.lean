/- DiskRenames returns true and makes new memory alone. Condition: the arguments are within what a slice may take up. -/
import Derived.Test.YtemfblhlkonlpaaDskE
import Derived.Test.YtemfblhlkonlpaaDskK
import Derived.Test.YtemfblhlkonlpaaGenFew2
import Derived.Test.YtemfblhlkonlpaaGenPick
namespace Go.Proofs.Ytemfblhlkonlpaa
open Go.RowKit
open Go.Maps

def rA (a : List Int) : St := ⟨10000, [], [⟨0, [102], [], a, 0⟩], -1, false, 1⟩
def rB (a : List Int) : St := ⟨10000, [([102], a)], [], -1, false, 2⟩
def rC (a b : List Int) : St := ⟨10000, [([102], a)], [⟨0, [103], [], b, 0⟩], -1, false, 3⟩
def rD (a b : List Int) : St := ⟨10000, [([102], a), ([103], b)], [], -1, false, 4⟩
def rE (a b : List Int) : St := ⟨10000, [([102], a), ([103], b)], [⟨2, [103], [102], [], 0⟩], -1, false, 5⟩
def rF (a b : List Int) (d : Nat) : St := ⟨10000, if d = 0 then [([102], a), ([103], b)] else [([102], b)], [], -1, false, 5⟩
theorem r0 : St.new 10000 = ⟨10000, [], [], -1, false, 0⟩ := by
  unfold St.new
  rw [show max 0 (min (10000 : Int) 16777216) = 10000 from by decide]
theorem r1 (a : List Int) (h : a.length ≤ 1000) : (St.new 10000).append [102] a = (0, rA a) := by
  rw [r0]
  unfold St.append
  rw [if_neg (by decide), if_neg (by decide), if_neg (by show ¬ ((10000 : Int) - ((0 : Nat) : Int) < (a.length : Int)); omega)]
  rfl
theorem r2 (a : List Int) : (rA a).sync = (0, rB a) := rfl
theorem r3 (a b : List Int) (h : a.length ≤ 1000) (hb : b.length ≤ 1000) : (rB a).append [103] b = (0, rC a b) := by
  have hu : (rB a).used = a.length := by show (a.length + 0) = a.length; rfl
  unfold St.append
  rw [if_neg (by decide), if_neg (by show ¬ false = true; decide), if_neg (by rw [hu]; show ¬ ((10000 : Int) - ((a.length : Nat) : Int) < (b.length : Int)); omega)]
  rfl
theorem r4 (a b : List Int) : (rC a b).sync = (0, rD a b) := rfl
theorem r5 (a b : List Int) : (rD a b).rename [103] [102] = (0, rE a b) := by
  unfold St.rename
  rw [if_neg (by decide), if_neg (by show ¬ false = true; decide), if_neg (by show ¬ (true = false); decide)]
  rfl
theorem r6 (a b : List Int) (done cut : Int) (d : Nat) (hd : (d : Int) = done % 2) : (rE a b).crash done cut = rF a b d := by
  have h : (done % (((rE a b).pend.length : Int) + 1)).toNat = d := by show (done % (((1 : Nat) : Int) + 1)).toNat = d; omega
  unfold St.crash
  rw [h]
  have h2 : d = 0 ∨ d = 1 := by omega
  rcases h2 with rfl | rfl <;> rfl
theorem r7 (a b : List Int) : fbytes [102] (rF a b 0).files = a ∧ (aget [102] (rF a b 0).files).isSome = true ∧ (aget [103] (rF a b 0).files).isSome = true := ⟨rfl, rfl, rfl⟩
theorem r8 (a b : List Int) : fbytes [102] (rF a b 1).files = b ∧ (aget [102] (rF a b 1).files).isSome = true ∧ (aget [103] (rF a b 1).files).isSome = false := ⟨rfl, rfl, rfl⟩
theorem str_eq_self (x : ByteArray) (W : World) : (binOp .eql 9 (.string x) (.string x)).run Try.prog W = .ok (.bool true) W := by
  show (Op.stringOp .eql x x).run Try.prog W = _
  unfold Op.stringOp
  simp
/-- A disk of the caller's own in memory. -/
structure Cl (w W : World) (B b : Nat) (S : Nat → Prop) (s : St) : Prop where
  ds : DS W B b S s
  bel : Below w.heap.size w W
  ge : ∀ k, S k → w.heap.size ≤ k
section
variable {w W W' : World} {B b : Nat} {S S' : Nat → Prop} {s s' : St}
theorem Cl.kb (h : Cl w W B b S s) (hb : Below W.heap.size W W') : Cl w W' B b S s := ⟨h.ds.kb hb, h.bel.trans (hb.mono h.bel.size), h.ge⟩
theorem Cl.step (h : Cl w W B b S s) (hd : DS W' B b S' s') (ho : Only S W W') (hs : ∀ k, S' k → S k ∨ W.heap.size ≤ k) : Cl w W' B b S' s' :=
  ⟨hd, h.bel.trans (ho.below h.bel.size h.ge), fun k hk => (hs k hk).elim (h.ge k) (fun e => Nat.le_trans h.bel.size e)⟩
/-- A slice of the caller's beside the disk. -/
structure Beside (W : World) (S : Nat → Prop) (B : Nat) (v : Value) (l : List Int) : Prop where
  own : BOwn W B v l
  out : ∀ k, v.ownBlock = some k → ¬ S k
theorem Beside.step {v : Value} {l : List Int} {B' : Nat} (h : Beside W S B' v l) (ho : Only S W W') (hs : ∀ k, S' k → S k ∨ W.heap.size ≤ k) : Beside W' S' B' v l :=
  ⟨own_kept h.own ho h.out, fun k hk hs' => (hs k hs').elim (h.out k hk) (fun e => by have := (h.own.lt k hk).2; omega)⟩
theorem Beside.kb {v : Value} {l : List Int} {B' : Nat} (h : Beside W S B' v l) (hb : Below W.heap.size W W') : Beside W' S B' v l :=
  ⟨own_kept h.own (S := fun _ => False) (Only.of_below hb) (fun _ _ h => h), h.out⟩
theorem Beside.new {v : Value} {l : List Int} (hv : BOwn W' W.heap.size v l) (h : Cl w W B b S s) : Beside W' S W.heap.size v l :=
  ⟨hv, fun k hk hs => by have h1 := (hv.lt k hk).1; have h2 := h.ds.lt k hs; omega⟩
end
set_option maxRecDepth 20000 in
set_option maxHeartbeats 2000000 in
theorem diskRenames_walk (w : World) (va vb : Value) (a b : List Int) (ha : a.length ≤ 140737488351232) (hb : b.length ≤ 140737488351232) (sa : Seen w va a) (sb : Seen w vb b) (done cut : Int) :
    Calls Try.prog 5 #[va, vb, .int .i64 done, .int .i64 cut] w fun e w' => e = .returned (.bool true) ∧ Below w.heap.size w w' := by
  have SA := Lib.hid sa
  have SB := Lib.hid sb
  have HA := Lib.hid ha
  have HB := Lib.hid hb
  clear sa sb ha hb
  go_enter Try.func5, Try.ntmps5
  go_wp2_with fail
  refine (new_to w 10000).mono ?_
  rintro e w1 ⟨d, S1, rfl, h1, b1, g1⟩
  have C1 : Hid (Cl w w1 w.heap.size d S1 (St.new 10000)) := Lib.hid ⟨h1, b1, g1⟩
  have SA1 := Lib.hid (SA.out.kb b1)
  have SB1 := Lib.hid (SB.out.kb b1)
  clear h1 b1 g1 SA SB
  go_wp2_with fail
  refine (few_to w1 va a 1000 (by decide) HA.out SA1.out).mono ?_
  rintro e w2 ⟨ga, ca, rfl, oa, b2⟩
  obtain ⟨x, hx⟩ : ∃ x, x = a.take 1000 := ⟨_, rfl⟩
  have HX : Hid (x.length ≤ 1000) := Lib.hid (by rw [hx, List.length_take]; omega)
  rw [← hx] at oa ⊢
  have C2 := Lib.hid (C1.out.kb b2)
  have BA2 : Hid (Beside w2 S1 w1.heap.size (.slice (some ⟨ga, 0, none⟩) x.length ca) x) := Lib.hid (Beside.new oa C1.out)
  have SB2 := Lib.hid (SB1.out.kb b2)
  clear oa b2 hx SA1 SB1 C1
  go_wp2_with fail
  refine (few_to w2 vb b 1000 (by decide) HB.out SB2.out).mono ?_
  rintro e w3 ⟨gb, cb, rfl, ob, b3⟩
  obtain ⟨y, hy⟩ : ∃ y, y = b.take 1000 := ⟨_, rfl⟩
  have HY : Hid (y.length ≤ 1000) := Lib.hid (by rw [hy, List.length_take]; omega)
  rw [← hy] at ob ⊢
  have C3 := Lib.hid (C2.out.kb b3)
  have BA3 := Lib.hid (BA2.out.kb b3)
  have BB3 : Hid (Beside w3 S1 w2.heap.size (.slice (some ⟨gb, 0, none⟩) y.length cb) y) := Lib.hid (Beside.new ob C2.out)
  clear ob b3 hy SB2 C2 BA2
  go_wp2_with fail
  refine (known_to w3).mono ?_
  rintro e w4 ⟨rfl, b4⟩
  have C4 := Lib.hid (C3.out.kb b4)
  have BA4 := Lib.hid (BA3.out.kb b4)
  have BB4 := Lib.hid (BB3.out.kb b4)
  clear b4 C3 BA3 BB3
  go_wp2_with fail
  refine (append_to w4 _ d S1 _ [102] _ x C4.out.ds (by decide) (by decide) (by decide) (Seen.own BA4.out.own) BA4.out.out (Nat.le_trans HX.out (by decide))).mono ?_
  rintro e w5 ⟨rfl, S5, h5, o5, s5⟩
  rw [r1 x HX.out] at h5
  rw [r1 x HX.out, show enoOf 0 = .nilIface from rfl]
  have C5 := Lib.hid (C4.out.step h5 o5 s5)
  have BA5 := Lib.hid (BA4.out.step o5 s5)
  have BB5 := Lib.hid (BB4.out.step o5 s5)
  clear h5 o5 s5 C4 BA4 BB4
  go_wp2_with fail
  refine (sync_to w5 _ d S5 _ C5.out.ds (by simp [rA]) (by simp [rA])).mono ?_
  rintro e w6 ⟨rfl, S6, h6, o6, s6⟩
  have C6 : Hid (Cl w w6 w.heap.size d S6 (rB x)) := Lib.hid (C5.out.step h6 o6 s6)
  have BA6 := Lib.hid (BA5.out.step o6 s6)
  have BB6 := Lib.hid (BB5.out.step o6 s6)
  rw [show enoOf (rA x).sync.1 = .nilIface from rfl]
  clear h6 o6 s6 C5 BA5 BB5
  go_wp2_with fail
  refine (append_to w6 _ d S6 _ [103] _ y C6.out.ds (by simp [rB]) (by simp [rB]) (by decide) (Seen.own BB6.out.own) BB6.out.out (Nat.le_trans HY.out (by decide))).mono ?_
  rintro e w7 ⟨rfl, S7, h7, o7, s7⟩
  rw [r3 x y HX.out HY.out] at h7
  rw [r3 x y HX.out HY.out, show enoOf 0 = .nilIface from rfl]
  have C7 := Lib.hid (C6.out.step h7 o7 s7)
  have BA7 := Lib.hid (BA6.out.step o7 s7)
  have BB7 := Lib.hid (BB6.out.step o7 s7)
  clear h7 o7 s7 C6 BA6 BB6
  go_wp2_with fail
  refine (sync_to w7 _ d S7 _ C7.out.ds (by simp [rC]) (by simp [rC])).mono ?_
  rintro e w8 ⟨rfl, S8, h8, o8, s8⟩
  have C8 : Hid (Cl w w8 w.heap.size d S8 (rD x y)) := Lib.hid (C7.out.step h8 o8 s8)
  have BA8 := Lib.hid (BA7.out.step o8 s8)
  have BB8 := Lib.hid (BB7.out.step o8 s8)
  rw [show enoOf (rC x y).sync.1 = .nilIface from rfl]
  clear h8 o8 s8 C7 BA7 BB7
  go_wp2_with fail
  refine (rename_to w8 _ d S8 _ [103] [102] C8.out.ds (by simp [rD]) (by simp [rD]) (by decide) (by decide)).mono ?_
  rintro e w9 ⟨rfl, S9, h9, o9, s9⟩
  rw [r5 x y] at h9
  rw [r5 x y, show enoOf 0 = .nilIface from rfl]
  have C9 : Hid (Cl w w9 w.heap.size d S9 (rE x y)) := Lib.hid (C8.out.step h9 o9 s9)
  have BA9 := Lib.hid (BA8.out.step o9 s9)
  have BB9 := Lib.hid (BB8.out.step o9 s9)
  clear h9 o9 s9 C8 BA8 BB8
  go_wp2_with fail
  obtain ⟨r, hr⟩ : ∃ r : Nat, (r : Int) = done % 2 := ⟨(done % 2).toNat, by omega⟩
  refine (crash_to w9 _ d S9 _ done cut C9.out.ds (by simp [rE])).mono ?_
  rintro e wa ⟨rfl, Sa, ha, oa, sa⟩
  rw [r6 x y done cut r hr] at ha
  have Ca := Lib.hid (C9.out.step ha oa sa)
  have BAa := Lib.hid (BA9.out.step oa sa)
  have BBa := Lib.hid (BB9.out.step oa sa)
  have HR := Lib.hid hr
  clear ha oa sa C9 BA9 BB9
  have hr2 : r = 0 ∨ r = 1 := by omega
  clear hr
  go_wp2_with fail
  refine (read_to wa _ d Sa _ [102] Ca.out.ds (by decide)).mono ?_
  rintro e wb ⟨v1, rfl, ov1, bb⟩
  have Cb := Lib.hid (Ca.out.kb bb)
  have BAb := Lib.hid (BAa.out.kb bb)
  have BBb := Lib.hid (BBa.out.kb bb)
  have OV1 := Lib.hid ov1
  rw [show (rF x y r).dead = false from rfl]
  simp only [Bool.false_eq_true, if_false]
  clear ov1 bb Ca BAa BBa
  go_wp2_with fail
  refine (read_to wb _ d Sa _ [103] Cb.out.ds (by decide)).mono ?_
  rintro e wc ⟨v2, rfl, ov2, bc⟩
  have Cc := Lib.hid (Cb.out.kb bc)
  have BAc := Lib.hid (BAb.out.kb bc)
  have BBc := Lib.hid (BBb.out.kb bc)
  have OV2 : Hid (BOwn wc wa.heap.size v1 (if (rF x y r).dead = true then [] else fbytes [102] (rF x y r).files)) := Lib.hid (own_kept OV1.out (S := fun _ => False) (Only.of_below bc) (fun _ _ h => h))
  rw [show (rF x y r).dead = false from rfl] at OV2 ⊢
  simp only [Bool.false_eq_true, if_false] at OV2 ⊢
  clear ov2 bc Cb BAb BBb OV1
  have HP := Lib.hid (pick_to wc done 2 r (by decide) (by decide) HR.out.symm)
  go_wp2_with fail
  refine HP.out.mono ?_
  rintro e w' ⟨rfl, rfl⟩
  clear HP
  rcases hr2 with rfl | rfl
  · obtain ⟨q1, q2, q3⟩ := r7 x y
    rw [q1] at OV2
    rw [q2, q3]
    have hc1 := conv_own OV2.out
    have hc2 := conv_own BAc.out.own
    obtain ⟨p1, c1, rfl⟩ := own_slice OV2.out
    have heq := str_eq_self (strOfNums x) wc
    clear q1 q2 q3
    go_wp2_with fail
    go_ret
    exact ⟨rfl, Cc.out.bel⟩
  · obtain ⟨q1, q2, q3⟩ := r8 x y
    rw [q1] at OV2
    rw [q2, q3]
    have hc1 := conv_own OV2.out
    have hc2 := conv_own BBc.out.own
    obtain ⟨p1, c1, rfl⟩ := own_slice OV2.out
    have heq := str_eq_self (strOfNums y) wc
    clear q1 q2 q3
    go_wp2_with fail
    go_ret
    exact ⟨rfl, Cc.out.bel⟩
end Go.Proofs.Ytemfblhlkonlpaa
