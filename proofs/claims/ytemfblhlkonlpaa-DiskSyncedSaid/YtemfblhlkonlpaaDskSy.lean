/- DiskSynced returns true and makes new memory alone. Condition: the arguments are within what a slice may take up. -/
import Derived.Test.YtemfblhlkonlpaaDskY
import Derived.Test.YtemfblhlkonlpaaDskV3
import Derived.Test.YtemfblhlkonlpaaDskSt
namespace Go.Proofs.Ytemfblhlkonlpaa
open Go.RowKit
open Go.Maps

theorem neq_str_self2 (x : ByteArray) (W : World) : (binOp .neq 9 (.string x) (.string x)).run Try.prog W = .ok (.bool false) W := by
  show (Op.stringOp .neq x x).run Try.prog W = _
  unfold Op.stringOp
  simp
def sS (x y : List Int) (n : Nat) : St := ⟨100000, [([97], x), ([98], y)], [], -1, false, n⟩
def sP (x y : List Int) (n : Nat) (k : Wk) : St := ⟨100000, [([97], x), ([98], y)], [k], -1, false, n + 1⟩
def s1 (x : List Int) : St := ⟨100000, [], [⟨0, [97], [], x, 0⟩], -1, false, 1⟩
def s2 (x y : List Int) : St := ⟨100000, [], [⟨0, [97], [], x, 0⟩, ⟨0, [98], [], y, 0⟩], -1, false, 2⟩
theorem sn : St.new 100000 = ⟨100000, [], [], -1, false, 0⟩ := by
  unfold St.new
  rw [show max 0 (min (100000 : Int) 16777216) = 100000 from by decide]
theorem sa1 (x : List Int) (h : x.length ≤ 1000) : (St.new 100000).append [97] x = (0, s1 x) := by
  rw [sn]
  unfold St.append
  rw [if_neg (by decide), if_neg (by decide), if_neg (by show ¬ ((100000 : Int) - ((0 : Nat) : Int) < (x.length : Int)); omega)]
  rfl
theorem sa2 (x y : List Int) (h : x.length ≤ 1000) (hy : y.length ≤ 1000) : (s1 x).append [98] y = (0, s2 x y) := by
  have hu : (s1 x).used = x.length := by show (x.length + 0) = x.length; rfl
  unfold St.append
  rw [if_neg (by decide), if_neg (by show ¬ false = true; decide), if_neg (by rw [hu]; show ¬ ((100000 : Int) - ((x.length : Nat) : Int) < (y.length : Int)); omega)]
  rfl
theorem sa3 (x y : List Int) : (s2 x y).sync = (0, sS x y 3) := rfl
theorem so0 (x y : List Int) (n : Nat) : (sS x y n).remove [97] = (0, sP x y n ⟨3, [97], [], [], 0⟩) := by
  unfold St.remove
  rw [if_neg (by decide), if_neg (by show ¬ false = true; decide), if_neg (by show ¬ (true = false); decide)]
  rfl
theorem so1 (x y : List Int) (n : Nat) : (sS x y n).rename [98] [97] = (0, sP x y n ⟨2, [98], [97], [], 0⟩) := by
  unfold St.rename
  rw [if_neg (by decide), if_neg (by show ¬ false = true; decide), if_neg (by show ¬ (true = false); decide)]
  rfl
theorem so2 (x y : List Int) (n : Nat) : (sS x y n).truncate [97] 0 = (0, sP x y n ⟨1, [97], [], [], 0⟩) := by
  unfold St.truncate
  rw [if_neg (by decide), if_neg (by show ¬ false = true; decide), if_neg (by show ¬ (true = false); decide), if_neg (by omega)]
  rfl
theorem so3 (x y : List Int) (n : Nat) (h : x.length ≤ 1000) (hy : y.length ≤ 1000) : (sS x y n).append [97] [109, 111, 114, 101] = (0, sP x y n ⟨0, [97], [], [109, 111, 114, 101], 0⟩) := by
  have hu : (sS x y n).used = x.length + y.length := by show (x.length + (y.length + 0)) = x.length + y.length; rfl
  unfold St.append
  rw [if_neg (by decide), if_neg (by show ¬ false = true; decide), if_neg (by rw [hu]; show ¬ ((100000 : Int) - ((x.length + y.length : Nat) : Int) < 4); omega)]
  rfl
theorem sc (x y : List Int) (n : Nat) (k : Wk) : (sP x y n k).crash 0 0 = sS x y (n + 1) := by
  have h : part [([97], x), ([98], y)] k 0 = [([97], x), ([98], y)] := by
    unfold part
    split
    · rw [if_pos (by rw [Int.zero_emod])]
    · rfl
  unfold St.crash
  have e : crashF (sP x y n k).kept (sP x y n k).pend ((0 : Int) % (((sP x y n k).pend.length : Int) + 1)).toNat 0 = [([97], x), ([98], y)] := h
  rw [e]
  rfl
theorem sr (x y : List Int) (n : Nat) : fbytes [97] (sS x y n).files = x ∧ (aget [97] (sS x y n).files).isSome = true ∧ fbytes [98] (sS x y n).files = y ∧ (aget [98] (sS x y n).files).isSome = true ∧ nms (sS x y n).files = [[97], [98]] ∧ (sS x y n).used = x.length + y.length := ⟨rfl, rfl, rfl, rfl, rfl, by show (x.length + (y.length + 0)) = x.length + y.length; rfl⟩
theorem used_ds (w : World) (B b : Nat) (S : Nat → Prop) (s : St) (h : DS w B b S s) : Calls Try.prog 27 #[.pointer (some ⟨b,0,none⟩)] w fun e w' => e = .returned (.int .i64 (if s.dead = true then 0 else (s.used : Int))) ∧ w = w' := by
  obtain ⟨c, L, P, hx⟩ := h
  have := used_to w b c hx.dc.d
  rw [hx.dead, hx.used_eq] at this
  exact this
theorem mod4 (x : Int) : x % 4 = 0 ∨ x % 4 = 1 ∨ x % 4 = 2 ∨ x % 4 = 3 := by omega
/-- What the loop of DiskSynced keeps. -/
structure SyL (w wr : World) (d : Nat) (S : Nat → Prop) (x y : List Int) (k : Nat) (va vb : Value) (Ba Bb : Nat) : Prop where
  cl : Cl w wr w.heap.size d S (sS x y (3 + k))
  a : Beside wr S Ba va x
  b : Beside wr S Bb vb y
theorem SyL.step {w wr W' : World} {d : Nat} {S S' : Nat → Prop} {x y : List Int} {k k' : Nat} {va vb : Value} {Ba Bb : Nat} (h : SyL w wr d S x y k va vb Ba Bb) (hd : DS W' w.heap.size d S' (sS x y (3 + k'))) (ho : Only S wr W') (hs : ∀ k, S' k → S k ∨ wr.heap.size ≤ k) : SyL w W' d S' x y k' va vb Ba Bb :=
  ⟨h.cl.step hd ho hs, h.a.step ho hs, h.b.step ho hs⟩
theorem SyL.kb {w wr W' : World} {d : Nat} {S : Nat → Prop} {x y : List Int} {k : Nat} {va vb : Value} {Ba Bb : Nat} (h : SyL w wr d S x y k va vb Ba Bb) (hb : Below wr.heap.size wr W') : SyL w W' d S x y k va vb Ba Bb := ⟨h.cl.kb hb, h.a.kb hb, h.b.kb hb⟩
set_option maxRecDepth 20000 in
set_option maxHeartbeats 4000000 in
theorem diskSynced_walk (w : World) (va vb : Value) (a b : List Int) (sa : Seen w va a) (sb : Seen w vb b) (p0 : Option Addr) (c0 : Nat) (E : List Int) (hE : WSeen w p0 E) :
    Calls Try.prog 6 #[va, vb, .slice p0 E.length c0] w fun e w' => e = .returned (.bool true) ∧ Below w.heap.size w w' := by
  have SA := Lib.hid sa
  have SB := Lib.hid sb
  have HE := Lib.hid hE
  obtain ⟨n, hn⟩ : ∃ n, n = E.length := ⟨_, rfl⟩
  have HN := Lib.hid hn
  rw [← hn]
  have kc := fun (w : World) (C : Array Value) (n c : Nat) => Lib.run_convert_bytes_const (P := Try.prog) w 38 5 C n c Try.underlying38 Try.underlying5
  clear sa sb hE hn
  go_enter Try.func6, Try.ntmps6
  go_wp2_with fail
  refine (new_to w 100000).mono ?_
  rintro e w1 ⟨d, S1, rfl, h1, b1, g1⟩
  have C1 : Hid (Cl w w1 w.heap.size d S1 (St.new 100000)) := Lib.hid ⟨h1, b1, g1⟩
  have SA1 := Lib.hid (SA.out.kb b1)
  have SB1 := Lib.hid (SB.out.kb b1)
  clear h1 b1 g1 SA SB
  go_wp2_with fail
  refine (few_nb w1 va a 1000 (by decide) SA1.out).mono ?_
  rintro e w2 ⟨ga, ca, rfl, oa, b2⟩
  obtain ⟨x, hx⟩ : ∃ x, x = a.take 1000 := ⟨_, rfl⟩
  have HX : Hid (x.length ≤ 1000) := Lib.hid (by rw [hx, List.length_take]; omega)
  rw [← hx] at oa ⊢
  have C2 := Lib.hid (C1.out.kb b2)
  have BA2 : Hid (Beside w2 S1 w1.heap.size (.slice (some ⟨ga, 0, none⟩) x.length ca) x) := Lib.hid (Beside.new oa C1.out)
  have SB2 := Lib.hid (SB1.out.kb b2)
  clear oa b2 hx SA1 SB1 C1
  go_wp2_with fail
  refine (few_nb w2 vb b 1000 (by decide) SB2.out).mono ?_
  rintro e w3 ⟨gb, cb, rfl, ob, b3⟩
  obtain ⟨y, hy⟩ : ∃ y, y = b.take 1000 := ⟨_, rfl⟩
  have HY : Hid (y.length ≤ 1000) := Lib.hid (by rw [hy, List.length_take]; omega)
  rw [← hy] at ob ⊢
  have C3 := Lib.hid (C2.out.kb b3)
  have BA3 := Lib.hid (BA2.out.kb b3)
  have BB3 : Hid (Beside w3 S1 w2.heap.size (.slice (some ⟨gb, 0, none⟩) y.length cb) y) := Lib.hid (Beside.new ob C2.out)
  clear ob b3 hy SB2 C2 BA2
  go_wp2_with fail
  refine (known_to w3).mono ?_
  rintro e w4 ⟨rfl, b4⟩
  have C4 := Lib.hid (C3.out.kb b4)
  have BA4 := Lib.hid (BA3.out.kb b4)
  have BB4 := Lib.hid (BB3.out.kb b4)
  clear b4 C3 BA3 BB3
  go_wp2_with fail
  refine (append_to w4 _ d S1 _ [97] _ x C4.out.ds (by decide) (by decide) (by decide) (Seen.own BA4.out.own) BA4.out.out (Nat.le_trans HX.out (by decide))).mono ?_
  rintro e w5 ⟨rfl, S5, h5, o5, s5⟩
  rw [sa1 x HX.out] at h5
  rw [sa1 x HX.out, show enoOf 0 = .nilIface from rfl]
  have C5 := Lib.hid (C4.out.step h5 o5 s5)
  have BA5 := Lib.hid (BA4.out.step o5 s5)
  have BB5 := Lib.hid (BB4.out.step o5 s5)
  clear h5 o5 s5 C4 BA4 BB4
  go_wp2_with fail
  refine (append_to w5 _ d S5 _ [98] _ y C5.out.ds (by simp [s1]) (by simp [s1]) (by decide) (Seen.own BB5.out.own) BB5.out.out (Nat.le_trans HY.out (by decide))).mono ?_
  rintro e w6 ⟨rfl, S6, h6, o6, s6⟩
  rw [sa2 x y HX.out HY.out] at h6
  rw [sa2 x y HX.out HY.out, show enoOf 0 = .nilIface from rfl]
  have C6 := Lib.hid (C5.out.step h6 o6 s6)
  have BA6 := Lib.hid (BA5.out.step o6 s6)
  have BB6 := Lib.hid (BB5.out.step o6 s6)
  clear h6 o6 s6 C5 BA5 BB5
  go_wp2_with fail
  refine (sync_to w6 _ d S6 _ C6.out.ds (by simp [s2]) (by simp [s2])).mono ?_
  rintro e w7 ⟨rfl, S7, h7, o7, s7⟩
  have HL0 : Hid (SyL w w7 d S7 x y 0 (.slice (some ⟨ga, 0, none⟩) x.length ca) (.slice (some ⟨gb, 0, none⟩) y.length cb) w1.heap.size w2.heap.size) := Lib.hid ⟨C6.out.step h7 o7 s7, BA6.out.step o7 s7, BB6.out.step o7 s7⟩
  rw [show enoOf (s2 x y).sync.1 = .nilIface from rfl]
  clear h7 o7 s7 C6 BA6 BB6
  go_wp2_with fail
  go_loopw [8] (fun i wr => ∃ (k : Nat) (S : Nat → Prop), k ≤ n ∧ k ≤ 10 ∧ i = .int .i64 k ∧ Hid (SyL w wr d S x y k (.slice (some ⟨ga, 0, none⟩) x.length ca) (.slice (some ⟨gb, 0, none⟩) y.length cb) w1.heap.size w2.heap.size)) (fun i _ => n - (intOf i).toNat)
  case atStart => exact ⟨0, S7, Nat.zero_le _, by omega, rfl, HL0⟩
  case round =>
    obtain ⟨k, S, hk, hk10, rfl, HR⟩ := hrel
    clear HL0
    by_cases hlt : k < n ∧ k < 10
    · obtain ⟨hl1, hl2⟩ := hlt
      obtain ⟨z, hz⟩ : ∃ z, E[k]? = some z := ⟨E[k]'(by rw [← HN.out]; exact hl1), List.getElem?_eq_getElem _⟩
      obtain ⟨eb, eo, rfl, hcz⟩ := HE.out k z hz
      have hc : wr.cell? ⟨eb, eo + k * 6, none⟩ = some (.int .i64 z) := by
        rw [World.cell?_of_block (w := w) (HR.out.cl.bel.block _ (World.block_lt_of_cell? w _ hcz))]; exact hcz
      have hk' : (k : Int) < n := by omega
      have hk'' : (k : Int) < 10 := by omega
      have HKN : Hid (k < n ∧ k < 10) := Lib.hid ⟨hl1, hl2⟩
      have h4 := mod4 z
      clear hz hcz
      rcases h4 with hm | hm | hm | hm
      · have HP := Lib.hid (pick_to wr z 4 0 (by decide) (by decide) hm)
        clear hm
        go_wp2_with fail
        refine HP.out.mono ?_
        rintro e w' ⟨rfl, rfl⟩
        clear HP
        go_wp2_with fail
        refine (remove_to wr _ d S _ [97] HR.out.cl.ds (by show 3 + k ≤ _; omega) (by show (-1 : Int) < _; decide) (by decide)).mono ?_
        rintro e w8 ⟨rfl, S8, h8, o8, s8⟩
        rw [so0 x y (3 + k)] at h8
        have HO8 := Lib.hid (And.intro h8 (And.intro o8 s8))
        clear h8 o8 s8
        go_wp2_with fail
        refine (crash_to w8 _ d S8 _ 0 0 HO8.out.1 (by show 3 + k + 1 ≤ _; omega)).mono ?_
        rintro e w9 ⟨rfl, S9, h9, o9, s9⟩
        rw [sc] at h9
        have HL9 : Hid (SyL w w9 d S9 x y (k + 1) (.slice (some ⟨ga, 0, none⟩) x.length ca) (.slice (some ⟨gb, 0, none⟩) y.length cb) w1.heap.size w2.heap.size) := Lib.hid (HR.out.step h9 (HO8.out.2.1.trans o9 (fun _ h => h) (fun j hj e => (HO8.out.2.2 j e).elim id (fun e => absurd hj (by omega)))) (fun j hj => (s9 j hj).elim (HO8.out.2.2 j) (fun e => .inr (Nat.le_trans HO8.out.2.1.size e))))
        clear h9 o9 s9 HO8
        go_wp2_with fail
        refine (read_to w9 _ d S9 _ [97] HL9.out.cl.ds (by decide)).mono ?_
        rintro e wb ⟨v1, rfl, ov1, bb⟩
        have OV1 := Lib.hid ov1
        have HLb := Lib.hid (HL9.out.kb bb)
        simp only [show (sS x y (3 + (k + 1))).dead = false from rfl, Bool.false_eq_true, if_false, (sr x y (3 + (k + 1))).2.1]
        clear ov1 bb HL9
        go_wp2_with fail
        refine (read_to wb _ d S9 _ [98] HLb.out.cl.ds (by decide)).mono ?_
        rintro e wc ⟨v2, rfl, ov2, bc⟩
        have HLc := Lib.hid (HLb.out.kb bc)
        have ov1 := own_kept OV1.out (S := fun _ => False) (Only.of_below bc) (fun _ _ h => h)
        simp only [show (sS x y (3 + (k + 1))).dead = false from rfl, Bool.false_eq_true, if_false, (sr x y (3 + (k + 1))).2.2.2.1, (sr x y (3 + (k + 1))).2.2.1, (sr x y (3 + (k + 1))).1] at ov1 ov2 ⊢
        have hc1 := conv_own ov1
        have hc2 := conv_own ov2
        have hc3 := conv_own HLc.out.a.own
        have hc4 := conv_own HLc.out.b.own
        obtain ⟨p1, c1, rfl⟩ := own_slice ov1
        obtain ⟨p2, c2, rfl⟩ := own_slice ov2
        have hn1 := neq_str_self2 (strOfNums x) wc
        have hn2 := neq_str_self2 (strOfNums y) wc
        have HNM := Lib.hid (names_to wc _ d S9 _ HLc.out.cl.ds (by show 3 + (k + 1) ≤ _; omega))
        clear ov1 ov2 bc OV1 HLb
        go_wp2_with fail
        refine HNM.out.mono ?_
        rintro e wd ⟨v3, rfl, o3, b3⟩
        simp only [show (sS x y (3 + (k + 1))).dead = false from rfl, Bool.false_eq_true, if_false, (sr x y (3 + (k + 1))).2.2.2.2.1] at o3
        obtain ⟨p3, c3, e3⟩ := own_slice o3
        rw [show ([[97], [98]] : List Key).length = 2 from rfl] at e3
        subst e3
        have HLd := Lib.hid (HLc.out.kb b3)
        clear o3 b3 HNM hc1 hc2 hc3 hc4 hn1 hn2 HLc
        go_wp2_with fail
        refine ⟨⟨k + 1, S9, by have := HKN.out; omega, by have := HKN.out; omega, by go_num, HLd⟩, by simp [intOf]; have := HKN.out; omega⟩
      · have HP := Lib.hid (pick_to wr z 4 1 (by decide) (by decide) hm)
        clear hm
        go_wp2_with fail
        refine HP.out.mono ?_
        rintro e w' ⟨rfl, rfl⟩
        clear HP
        go_wp2_with fail
        refine (rename_to wr _ d S _ [98] [97] HR.out.cl.ds (by show 3 + k ≤ _; omega) (by show (-1 : Int) < _; decide) (by decide) (by decide)).mono ?_
        rintro e w8 ⟨rfl, S8, h8, o8, s8⟩
        rw [so1 x y (3 + k)] at h8
        have HO8 := Lib.hid (And.intro h8 (And.intro o8 s8))
        clear h8 o8 s8
        go_wp2_with fail
        refine (crash_to w8 _ d S8 _ 0 0 HO8.out.1 (by show 3 + k + 1 ≤ _; omega)).mono ?_
        rintro e w9 ⟨rfl, S9, h9, o9, s9⟩
        rw [sc] at h9
        have HL9 : Hid (SyL w w9 d S9 x y (k + 1) (.slice (some ⟨ga, 0, none⟩) x.length ca) (.slice (some ⟨gb, 0, none⟩) y.length cb) w1.heap.size w2.heap.size) := Lib.hid (HR.out.step h9 (HO8.out.2.1.trans o9 (fun _ h => h) (fun j hj e => (HO8.out.2.2 j e).elim id (fun e => absurd hj (by omega)))) (fun j hj => (s9 j hj).elim (HO8.out.2.2 j) (fun e => .inr (Nat.le_trans HO8.out.2.1.size e))))
        clear h9 o9 s9 HO8
        go_wp2_with fail
        refine (read_to w9 _ d S9 _ [97] HL9.out.cl.ds (by decide)).mono ?_
        rintro e wb ⟨v1, rfl, ov1, bb⟩
        have OV1 := Lib.hid ov1
        have HLb := Lib.hid (HL9.out.kb bb)
        simp only [show (sS x y (3 + (k + 1))).dead = false from rfl, Bool.false_eq_true, if_false, (sr x y (3 + (k + 1))).2.1]
        clear ov1 bb HL9
        go_wp2_with fail
        refine (read_to wb _ d S9 _ [98] HLb.out.cl.ds (by decide)).mono ?_
        rintro e wc ⟨v2, rfl, ov2, bc⟩
        have HLc := Lib.hid (HLb.out.kb bc)
        have ov1 := own_kept OV1.out (S := fun _ => False) (Only.of_below bc) (fun _ _ h => h)
        simp only [show (sS x y (3 + (k + 1))).dead = false from rfl, Bool.false_eq_true, if_false, (sr x y (3 + (k + 1))).2.2.2.1, (sr x y (3 + (k + 1))).2.2.1, (sr x y (3 + (k + 1))).1] at ov1 ov2 ⊢
        have hc1 := conv_own ov1
        have hc2 := conv_own ov2
        have hc3 := conv_own HLc.out.a.own
        have hc4 := conv_own HLc.out.b.own
        obtain ⟨p1, c1, rfl⟩ := own_slice ov1
        obtain ⟨p2, c2, rfl⟩ := own_slice ov2
        have hn1 := neq_str_self2 (strOfNums x) wc
        have hn2 := neq_str_self2 (strOfNums y) wc
        have HNM := Lib.hid (names_to wc _ d S9 _ HLc.out.cl.ds (by show 3 + (k + 1) ≤ _; omega))
        clear ov1 ov2 bc OV1 HLb
        go_wp2_with fail
        refine HNM.out.mono ?_
        rintro e wd ⟨v3, rfl, o3, b3⟩
        simp only [show (sS x y (3 + (k + 1))).dead = false from rfl, Bool.false_eq_true, if_false, (sr x y (3 + (k + 1))).2.2.2.2.1] at o3
        obtain ⟨p3, c3, e3⟩ := own_slice o3
        rw [show ([[97], [98]] : List Key).length = 2 from rfl] at e3
        subst e3
        have HLd := Lib.hid (HLc.out.kb b3)
        clear o3 b3 HNM hc1 hc2 hc3 hc4 hn1 hn2 HLc
        go_wp2_with fail
        refine ⟨⟨k + 1, S9, by have := HKN.out; omega, by have := HKN.out; omega, by go_num, HLd⟩, by simp [intOf]; have := HKN.out; omega⟩
      · have HP := Lib.hid (pick_to wr z 4 2 (by decide) (by decide) hm)
        clear hm
        go_wp2_with fail
        refine HP.out.mono ?_
        rintro e w' ⟨rfl, rfl⟩
        clear HP
        go_wp2_with fail
        refine (truncate_to wr _ d S _ [97] 0 HR.out.cl.ds (by show 3 + k ≤ _; omega) (by show (-1 : Int) < _; decide) (by decide)).mono ?_
        rintro e w8 ⟨rfl, S8, h8, o8, s8⟩
        rw [so2 x y (3 + k)] at h8
        have HO8 := Lib.hid (And.intro h8 (And.intro o8 s8))
        clear h8 o8 s8
        go_wp2_with fail
        refine (crash_to w8 _ d S8 _ 0 0 HO8.out.1 (by show 3 + k + 1 ≤ _; omega)).mono ?_
        rintro e w9 ⟨rfl, S9, h9, o9, s9⟩
        rw [sc] at h9
        have HL9 : Hid (SyL w w9 d S9 x y (k + 1) (.slice (some ⟨ga, 0, none⟩) x.length ca) (.slice (some ⟨gb, 0, none⟩) y.length cb) w1.heap.size w2.heap.size) := Lib.hid (HR.out.step h9 (HO8.out.2.1.trans o9 (fun _ h => h) (fun j hj e => (HO8.out.2.2 j e).elim id (fun e => absurd hj (by omega)))) (fun j hj => (s9 j hj).elim (HO8.out.2.2 j) (fun e => .inr (Nat.le_trans HO8.out.2.1.size e))))
        clear h9 o9 s9 HO8
        go_wp2_with fail
        refine (read_to w9 _ d S9 _ [97] HL9.out.cl.ds (by decide)).mono ?_
        rintro e wb ⟨v1, rfl, ov1, bb⟩
        have OV1 := Lib.hid ov1
        have HLb := Lib.hid (HL9.out.kb bb)
        simp only [show (sS x y (3 + (k + 1))).dead = false from rfl, Bool.false_eq_true, if_false, (sr x y (3 + (k + 1))).2.1]
        clear ov1 bb HL9
        go_wp2_with fail
        refine (read_to wb _ d S9 _ [98] HLb.out.cl.ds (by decide)).mono ?_
        rintro e wc ⟨v2, rfl, ov2, bc⟩
        have HLc := Lib.hid (HLb.out.kb bc)
        have ov1 := own_kept OV1.out (S := fun _ => False) (Only.of_below bc) (fun _ _ h => h)
        simp only [show (sS x y (3 + (k + 1))).dead = false from rfl, Bool.false_eq_true, if_false, (sr x y (3 + (k + 1))).2.2.2.1, (sr x y (3 + (k + 1))).2.2.1, (sr x y (3 + (k + 1))).1] at ov1 ov2 ⊢
        have hc1 := conv_own ov1
        have hc2 := conv_own ov2
        have hc3 := conv_own HLc.out.a.own
        have hc4 := conv_own HLc.out.b.own
        obtain ⟨p1, c1, rfl⟩ := own_slice ov1
        obtain ⟨p2, c2, rfl⟩ := own_slice ov2
        have hn1 := neq_str_self2 (strOfNums x) wc
        have hn2 := neq_str_self2 (strOfNums y) wc
        have HNM := Lib.hid (names_to wc _ d S9 _ HLc.out.cl.ds (by show 3 + (k + 1) ≤ _; omega))
        clear ov1 ov2 bc OV1 HLb
        go_wp2_with fail
        refine HNM.out.mono ?_
        rintro e wd ⟨v3, rfl, o3, b3⟩
        simp only [show (sS x y (3 + (k + 1))).dead = false from rfl, Bool.false_eq_true, if_false, (sr x y (3 + (k + 1))).2.2.2.2.1] at o3
        obtain ⟨p3, c3, e3⟩ := own_slice o3
        rw [show ([[97], [98]] : List Key).length = 2 from rfl] at e3
        subst e3
        have HLd := Lib.hid (HLc.out.kb b3)
        clear o3 b3 HNM hc1 hc2 hc3 hc4 hn1 hn2 HLc
        go_wp2_with fail
        refine ⟨⟨k + 1, S9, by have := HKN.out; omega, by have := HKN.out; omega, by go_num, HLd⟩, by simp [intOf]; have := HKN.out; omega⟩
      · have HP := Lib.hid (pick_to wr z 4 3 (by decide) (by decide) hm)
        clear hm
        go_wp2_with fail
        refine HP.out.mono ?_
        rintro e w' ⟨rfl, rfl⟩
        clear HP
        go_wp2_with fail
        have b8 : Below wr.heap.size wr (wr.alloc (.cells #[.int .u8 109, .int .u8 111, .int .u8 114, .int .u8 101] 5 (4, 5))) := (Below.refl _ wr).alloc (Nat.le_refl _) _
        have hse : Seen (wr.alloc (.cells #[.int .u8 109, .int .u8 111, .int .u8 114, .int .u8 101] 5 (4, 5))) (.slice (some ⟨wr.heap.size, 0, none⟩) 4 4) [109, 111, 114, 101] := seen_lit2 wr [109, 111, 114, 101] 4 4 rfl (by decide) _ _ _ rfl
        have HR2 := Lib.hid (HR.out.kb b8)
        have hou : ∀ j, Value.ownBlock (.slice (some ⟨wr.heap.size, 0, none⟩) 4 4) = some j → ¬ S j := fun j hj hs => by
          cases hj
          exact absurd (HR.out.cl.ds.lt _ hs) (Nat.lt_irrefl _)
        refine (append_to _ _ d S _ [97] (.slice (some ⟨wr.heap.size, 0, none⟩) 4 4) [109, 111, 114, 101] HR2.out.cl.ds (by show 3 + k ≤ _; omega) (by show (-1 : Int) < _; decide) (by decide) hse hou (by decide)).mono ?_
        rintro e w8 ⟨rfl, S8, h8, o8, s8⟩
        rw [so3 x y (3 + k) HX.out HY.out] at h8
        have HO8 := Lib.hid (And.intro h8 (And.intro o8 s8))
        clear h8 o8 s8 b8 hse hou
        go_wp2_with fail
        refine (crash_to w8 _ d S8 _ 0 0 HO8.out.1 (by show 3 + k + 1 ≤ _; omega)).mono ?_
        rintro e w9 ⟨rfl, S9, h9, o9, s9⟩
        rw [sc] at h9
        have HL9 : Hid (SyL w w9 d S9 x y (k + 1) (.slice (some ⟨ga, 0, none⟩) x.length ca) (.slice (some ⟨gb, 0, none⟩) y.length cb) w1.heap.size w2.heap.size) := Lib.hid (HR2.out.step h9 (HO8.out.2.1.trans o9 (fun _ h => h) (fun j hj e => (HO8.out.2.2 j e).elim id (fun e => absurd hj (by omega)))) (fun j hj => (s9 j hj).elim (HO8.out.2.2 j) (fun e => .inr (Nat.le_trans HO8.out.2.1.size e))))
        clear h9 o9 s9 HO8
        go_wp2_with fail
        refine (read_to w9 _ d S9 _ [97] HL9.out.cl.ds (by decide)).mono ?_
        rintro e wb ⟨v1, rfl, ov1, bb⟩
        have OV1 := Lib.hid ov1
        have HLb := Lib.hid (HL9.out.kb bb)
        simp only [show (sS x y (3 + (k + 1))).dead = false from rfl, Bool.false_eq_true, if_false, (sr x y (3 + (k + 1))).2.1]
        clear ov1 bb HL9
        go_wp2_with fail
        refine (read_to wb _ d S9 _ [98] HLb.out.cl.ds (by decide)).mono ?_
        rintro e wc ⟨v2, rfl, ov2, bc⟩
        have HLc := Lib.hid (HLb.out.kb bc)
        have ov1 := own_kept OV1.out (S := fun _ => False) (Only.of_below bc) (fun _ _ h => h)
        simp only [show (sS x y (3 + (k + 1))).dead = false from rfl, Bool.false_eq_true, if_false, (sr x y (3 + (k + 1))).2.2.2.1, (sr x y (3 + (k + 1))).2.2.1, (sr x y (3 + (k + 1))).1] at ov1 ov2 ⊢
        have hc1 := conv_own ov1
        have hc2 := conv_own ov2
        have hc3 := conv_own HLc.out.a.own
        have hc4 := conv_own HLc.out.b.own
        obtain ⟨p1, c1, rfl⟩ := own_slice ov1
        obtain ⟨p2, c2, rfl⟩ := own_slice ov2
        have hn1 := neq_str_self2 (strOfNums x) wc
        have hn2 := neq_str_self2 (strOfNums y) wc
        have HNM := Lib.hid (names_to wc _ d S9 _ HLc.out.cl.ds (by show 3 + (k + 1) ≤ _; omega))
        clear ov1 ov2 bc OV1 HLb
        go_wp2_with fail
        refine HNM.out.mono ?_
        rintro e wd ⟨v3, rfl, o3, b3⟩
        simp only [show (sS x y (3 + (k + 1))).dead = false from rfl, Bool.false_eq_true, if_false, (sr x y (3 + (k + 1))).2.2.2.2.1] at o3
        obtain ⟨p3, c3, e3⟩ := own_slice o3
        rw [show ([[97], [98]] : List Key).length = 2 from rfl] at e3
        subst e3
        have HLd := Lib.hid (HLc.out.kb b3)
        clear o3 b3 HNM hc1 hc2 hc3 hc4 hn1 hn2 HLc
        go_wp2_with fail
        refine ⟨⟨k + 1, S9, by have := HKN.out; omega, by have := HKN.out; omega, by go_num, HLd⟩, by simp [intOf]; have := HKN.out; omega⟩
    · have HUD := Lib.hid (used_ds wr _ d S _ HR.out.cl.ds)
      rw [show (sS x y (3 + k)).dead = false from rfl, (sr x y (3 + k)).2.2.2.2.2] at HUD
      simp only [Bool.false_eq_true, if_false] at HUD
      have hpu : ((x.length + y.length : Nat) : Int) = (x.length : Int) + (y.length : Int) := by omega
      rw [hpu] at HUD
      have hxl : (x.length : Int) ≤ 1000 := by have := HX.out; omega
      have hyl : (y.length : Int) ≤ 1000 := by have := HY.out; omega
      clear hpu
      by_cases h1 : k < n
      · have hk' : (k : Int) < n := by omega
        have hk'' : ¬ (k : Int) < 10 := by omega
        clear hlt
        go_wp2_with (refine HUD.out.mono ?_; rintro e w' ⟨rfl, rfl⟩)
        go_ret
        exact ⟨rfl, HR.out.cl.bel⟩
      · have hk' : ¬ (k : Int) < n := by omega
        clear hlt
        go_wp2_with (refine HUD.out.mono ?_; rintro e w' ⟨rfl, rfl⟩)
        go_ret
        exact ⟨rfl, HR.out.cl.bel⟩
end Go.Proofs.Ytemfblhlkonlpaa
