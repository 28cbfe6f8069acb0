/- LogKnown returns true and makes new memory alone. Condition: errors.errorType holds what its text lays. -/
import Derived.Test.YtcolkgeflokgeaaDoorLogK
import Derived.Test.YtcolkgeflokgeaaDoorLogU
import Derived.Test.YtcolkgeflokgeaaDoorLogH
namespace Go.Proofs.YtcolkgeflokgeaaDoor
open Go.RowKit
open Go.Maps

theorem khand_num (w : World) (k : Int) (h : k ≠ 0) (hg : Glob w) : Calls Tryd.prog 22 #[eno k] w fun e w' => e = .returned (.int .i64 k) ∧ Below w.heap.size w w' := by
  have := khand_any w k hg
  unfold errOf at this
  rw [if_neg h] at this
  exact this
theorem open_nil (w : World) (nm : Key) (n : Int) : Calls Tryd.prog 28 #[.pointer none, stv nm, .int .i64 n] w fun e w' => e = .returned (.tuple #[.pointer none, eno 1]) ∧ w = w' := by
  go_enter Tryd.func28, Tryd.ntmps28
  go_wp2
  go_ret2
  exact ⟨rfl, rfl⟩
theorem open_neg (w : World) (d : Nat) (nm : Key) (n : Int) (hn : n < 0) : Calls Tryd.prog 28 #[.pointer (some ⟨d, 0, none⟩), stv nm, .int .i64 n] w fun e w' => e = .returned (.tuple #[.pointer none, eno 1]) ∧ w = w' := by
  go_enter Tryd.func28, Tryd.ntmps28
  go_wp2
  go_ret2
  exact ⟨rfl, rfl⟩
set_option maxRecDepth 20000 in
theorem open_short (w : World) (B d : Nat) (S0 : Nat → Prop) (s : St) (nm : Key) (n : Int) (h : DS w B d S0 s) (hnm : nm.length ≤ 281474976710656) (h0 : ¬ n < 0) (hs : ((s.rd nm).length : Int) < n) : Calls Tryd.prog 28 #[.pointer (some ⟨d, 0, none⟩), stv nm, .int .i64 n] w fun e w' => e = .returned (.tuple #[.pointer none, eno 3]) ∧ Below w.heap.size w w' := by
  have HRD := Lib.hid (read_to w B d S0 s nm h (Nat.le_trans hnm (by decide)))
  obtain ⟨l, hle⟩ : ∃ l, l = s.rd nm := ⟨_, rfl⟩
  have HL := Lib.hid hle
  rw [← hle] at hs
  clear h hle
  go_enter Tryd.func28, Tryd.ntmps28
  go_wp2_with fail
  refine HRD.out.mono ?_
  rintro e w1 ⟨v, rfl, ov, b1⟩
  have OV : Hid (BOwn w1 w.heap.size v l) := Lib.hid (by rw [HL.out]; exact ov)
  have B1 := Lib.hid b1
  clear ov b1 HRD
  obtain ⟨p, cap, rfl⟩ := own_slice OV.out
  obtain ⟨q, hq⟩ : ∃ q, q = l.length := ⟨_, rfl⟩
  rw [← hq] at hs ⊢
  generalize (if s.dead = true then false else (aget nm s.files).isSome) = ex
  clear hq
  go_wp2_with fail
  go_ret2
  exact ⟨rfl, B1.out⟩
/-- Scan of what begins with no record. -/
theorem scan_to (w : World) (v : Value) (l : List Int) (ok : Okb l) (hl : l.length ≤ 100000000) (hs : SeenR w v l) (h0 : (dec l).1 = []) : Calls Tryd.prog 33 #[v] w fun e w' => e = .returned (.tuple #[.slice none 0 0, .slice none 0 0, .int .i64 0]) ∧ Below w.heap.size w w' := by
  have HD := Lib.hid (decode_to w v l ok hl hs)
  clear hs
  go_enter Tryd.func33, Tryd.ntmps33
  go_wp2_with fail
  refine HD.out.mono ?_
  rintro e w1 ⟨rv, E, rfl, ra, hE, b1⟩
  rw [h0] at hE
  obtain rfl : E = [] := by cases E with
    | nil => rfl
    | cons a t => simp [rcs] at hE
  have RA := Lib.hid ra
  have B1 := Lib.hid b1
  clear ra b1 hE HD
  obtain ⟨p, cap, rfl⟩ := RA.out.slice
  rw [show ([] : List Re).length = 0 from rfl]
  go_wp2_with fail
  refine wp_loop_rounds 1 ?_
  rw [rounds_succ]
  go_wp2_with fail
  refine (end_to w1 _ _ [] RA.out).mono ?_
  rintro e w' ⟨rfl, rfl⟩
  rw [show ends (rcs []) = 0 from rfl]
  go_wp2_with fail
  go_ret3
  exact ⟨rfl, B1.out⟩
theorem OpErr.kb {w w' : World} {B : Nat} {c : Int} {v : Value} (h : OpErr w B c v) (hb : Below w.heap.size w w') : OpErr w' B c v := by
  rcases h with h | ⟨g, h, hB, hg⟩
  · exact .inl h
  · exact .inr ⟨g, h, hB, by rw [hb.block _ ((Array.getElem?_eq_some_iff.1 hg).1)]; exact hg⟩
theorem OpErr.iface {w : World} {B : Nat} {c : Int} {v : Value} (h : OpErr w B c v) : ∃ t x, v = .iface t x := by
  rcases h with h | ⟨g, h, _⟩
  · exact ⟨_, _, h⟩
  · exact ⟨_, _, h⟩
theorem khand_operr (w : World) (B : Nat) (c : Int) (v : Value) (h : OpErr w B c v) (hc : c ≠ 0) (hg : Glob w) : Calls Tryd.prog 22 #[v] w fun e w' => e = .returned (.int .i64 c) ∧ Below w.heap.size w w' := by
  rcases h with rfl | ⟨g, rfl, _, h⟩
  · exact khand_num w c hc hg
  · exact khand_step w c g slog h hg
theorem okb_str {xs : List Int} (h : ∀ x ∈ xs, 0 ≤ x ∧ x < 256) : Okb xs := h
def ln0 : St := St.new 50
theorem sh2 : ¬ (1 : Int) < 0 ∧ ((ln0.rd [102]).length : Int) < 1 := by decide +kernel
def ln1 : St := (openS ln0 [102] 0).2.1
def lR1 : List Rc := (openS ln0 [102] 0).2.2
theorem le1 : (openS ln0 [102] 0).1 = 0 ∧ ln0.works ≤ 900000000 ∧ ln0.fuse < 9223372036854775808 ∧ fbytes [102] ln0.files = [] := by decide +kernel
def ln2 : St := (addS ln1 [102] lR1 0 []).2.1
def lR2 : List Rc := (addS ln1 [102] lR1 0 []).2.2
theorem le2 : (addS ln1 [102] lR1 0 []).1 = 1 ∧ ln1.works ≤ 900000000 ∧ ln1.fuse < 9223372036854775808 ∧ ends lR1 ≤ 900000000 := by decide +kernel
def ln3 : St := (addS ln2 [102] lR2 1 (List.replicate 100 0)).2.1
def lR3 : List Rc := (addS ln2 [102] lR2 1 (List.replicate 100 0)).2.2
theorem le3 : (addS ln2 [102] lR2 1 (List.replicate 100 0)).1 = 6 ∧ ln2.works ≤ 900000000 ∧ ln2.fuse < 9223372036854775808 ∧ ends lR2 ≤ 900000000 := by decide +kernel
def ln4 : St := (addS ln3 [102] lR3 3 [120, 121, 122]).2.1
def lR4 : List Rc := (addS ln3 [102] lR3 3 [120, 121, 122]).2.2
theorem le4 : (addS ln3 [102] lR3 3 [120, 121, 122]).1 = 0 ∧ ln3.works ≤ 900000000 ∧ ln3.fuse < 9223372036854775808 ∧ ends lR3 ≤ 900000000 := by decide +kernel
def ln5 : St := (addS ln4 [102] lR4 4 []).2.1
def lR5 : List Rc := (addS ln4 [102] lR4 4 []).2.2
theorem le5 : (addS ln4 [102] lR4 4 []).1 = 0 ∧ ln4.works ≤ 900000000 ∧ ln4.fuse < 9223372036854775808 ∧ ends lR4 ≤ 900000000 := by decide +kernel
def ln6 : St := (cutS ln5 [102] lR5 5).2.1
def lR6 : List Rc := (cutS ln5 [102] lR5 5).2.2
theorem le6 : (cutS ln5 [102] lR5 5).1 = 1 ∧ ln5.works ≤ 900000000 ∧ ln5.fuse < 9223372036854775808 := by decide +kernel
def ln7 : St := (cutS ln6 [102] lR6 12).2.1
def lR7 : List Rc := (cutS ln6 [102] lR6 12).2.2
theorem le7 : (cutS ln6 [102] lR6 12).1 = 0 ∧ ln6.works ≤ 900000000 ∧ ln6.fuse < 9223372036854775808 := by decide +kernel
theorem lr0 : recR lR7 0 = (3, [120, 121, 122], true) := by decide +kernel
theorem lr1 : recR lR7 1 = (0, [], false) := by decide +kernel
def ln8 : St := (openS ln7 [102] 11).2.1
theorem le8 : (openS ln7 [102] 11).1 = 3 ∧ ln7.works ≤ 900000000 ∧ ln7.fuse < 9223372036854775808 ∧ fbytes [102] ln7.files = frm 3 [120, 121, 122] := by decide +kernel
theorem sc0 : (dec [1]).1 = [] := by decide +kernel
theorem len_e : ends lR7 = 12 := by decide +kernel
set_option maxRecDepth 20000 in
set_option maxHeartbeats 4000000 in
theorem logKnown_walk (w : World) (hg : Glob w) : Calls Tryd.prog 7 #[] w fun e w' => e = .returned (.bool true) ∧ Below w.heap.size w w' := by
  have kc := fun (w : World) (C : Array Value) (n c : Nat) => Lib.run_convert_bytes_const (P := Tryd.prog) w 73 5 C n c Tryd.underlying73 Tryd.underlying5
  have HG := Lib.hid hg
  clear hg
  obtain ⟨i0, hi0, hz0, hz1, hz2⟩ := info_parts u8info
  go_enter Tryd.func7, Tryd.ntmps7
  go_wp2_with fail
  refine (new_to w 50).mono ?_
  rintro e w1 ⟨d, S1, rfl, h1, b1, g1⟩
  have C_w1 : Hid (Cl w w1 w.heap.size d S1 ln0) := Lib.hid ⟨h1, b1, g1⟩
  clear h1 b1 g1
  go_wp2_with fail
  refine (open_nil w1 [102] 0).mono ?_
  rintro e w' ⟨rfl, rfl⟩
  go_wp2_with fail
  refine (open_neg w1 d [102] (-1) (by decide)).mono ?_
  rintro e w' ⟨rfl, rfl⟩
  go_wp2_with fail
  refine (open_short w1 _ d S1 ln0 [102] 1 C_w1.out.ds (by decide) sh2.1 sh2.2).mono ?_
  rintro e w2 ⟨rfl, bb⟩
  have C_w2 := Lib.hid (C_w1.out.kb bb)
  clear bb C_w1
  go_wp2_with fail
  refine (open_ok w2 _ d S1 ln0 [102] 0 C_w2.out.ds le1.2.1 le1.2.2.1 (by decide) (by rw [le1.2.2.2]; exact Okb.nil) le1.1).mono ?_
  rintro e w3 ⟨l, S3, rfl, h2, o2, s2⟩
  have C_w3 : Hid (CL w w3 w.heap.size d l S3 ln1 [102] lR1) := Lib.hid (C_w2.out.opened h2 o2 s2)
  clear h2 o2 s2 C_w2
  go_wp2_with fail
  refine (known7_to w3).mono ?_
  rintro e w4 ⟨rfl, bb⟩
  have C_w4 := Lib.hid (C_w3.out.kb bb)
  clear bb C_w3
  go_wp2_with fail
  refine (add_to w4 _ d l S3 ln1 [102] lR1 0 (.slice none 0 0) [] C_w4.out.dl le2.2.1 le2.2.2.1 (by decide) Okb.nil (Seen.nil _) (fun j hj => by simp [Value.ownBlock] at hj) (by decide) le2.2.2.2).mono ?_
  rintro e w5 ⟨rfl, S5, h, o, s⟩
  have C_w5 : Hid (CL w w5 w.heap.size d l S5 ln2 [102] lR2) := Lib.hid (C_w4.out.step h o s)
  rw [le2.1, show enoOf 1 = eno 1 from if_neg (by decide)]
  clear h o s C_w4
  go_wp2_with (refine wpList_make_full _ (by rfl) (.const (.int .i64 100)) (.const (.int .i64 100)) 73 (by rfl) w5.heap.size 5 i0 _ 1 Tryd.underlying73 hi0 hz0 hz1 .i64 .i64 100 100 100 (by rfl) (by rfl) (by rfl) (by rfl) (by rw [hz2]; decide) (by simp [maxLen]) (Nat.le_refl _) ?_; intro wm hm1 hm2; have HM1 := Lib.hid hm1; have HM2 := Lib.hid hm2; clear hm1 hm2)
  have bb : Below w5.heap.size w5 wm := (Below.refl _ w5).grown HM2.out (Nat.le_refl _) (fun k hk => by cases hk)
  have hse : Seen wm (.slice (some ⟨w5.heap.size, 0, none⟩) 100 100) (List.replicate 100 0) := Seen.own (B := w5.heap.size) (by have := HM1.out; rw [show (madeCells (Value.int .u8 0).cells (100 * 1)).toList = us (List.replicate 100 0) by kernel_rfl] at this; exact this)
  have hou : ∀ j, Value.ownBlock (.slice (some ⟨w5.heap.size, 0, none⟩) 100 100) = some j → ¬ S5 j := fun j hj hs => by
    cases hj
    exact absurd (C_w5.out.dl.lt _ hs) (Nat.lt_irrefl _)
  have C_b := Lib.hid (C_w5.out.kb bb)
  refine (add_to _ _ d l S5 ln2 [102] lR2 1 (.slice (some ⟨w5.heap.size, 0, none⟩) 100 100) (List.replicate 100 0) C_b.out.dl le3.2.1 le3.2.2.1 (by decide) (okb_str (fun y hy => by rw [List.eq_of_mem_replicate hy]; decide)) hse hou (by decide) le3.2.2.2).mono ?_
  rintro e w6 ⟨rfl, S6, h, o, s⟩
  have C_w6 : Hid (CL w w6 w.heap.size d l S6 ln3 [102] lR3) := Lib.hid (C_b.out.step h o s)
  rw [le3.1, show enoOf 6 = eno 6 from if_neg (by decide)]
  clear h o s C_w5 bb hse hou C_b HM1 HM2
  go_wp2_with fail
  have bb : Below w6.heap.size w6 (w6.alloc (.cells #[.int .u8 120, .int .u8 121, .int .u8 122] 5 (3, 4))) := (Below.refl _ w6).alloc (Nat.le_refl _) _
  have hse : Seen (w6.alloc (.cells #[.int .u8 120, .int .u8 121, .int .u8 122] 5 (3, 4))) (.slice (some ⟨w6.heap.size, 0, none⟩) 3 3) [120, 121, 122] := seen_lit2 w6 [120, 121, 122] 3 3 rfl (by decide) _ _ _ rfl
  have hou : ∀ j, Value.ownBlock (.slice (some ⟨w6.heap.size, 0, none⟩) 3 3) = some j → ¬ S6 j := fun j hj hs => by
    cases hj
    exact absurd (C_w6.out.dl.lt _ hs) (Nat.lt_irrefl _)
  have C_b := Lib.hid (C_w6.out.kb bb)
  refine (add_to _ _ d l S6 ln3 [102] lR3 3 (.slice (some ⟨w6.heap.size, 0, none⟩) 3 3) [120, 121, 122] C_b.out.dl le4.2.1 le4.2.2.1 (by decide) (okb_str (by decide)) hse hou (by decide) le4.2.2.2).mono ?_
  rintro e w7 ⟨rfl, S7, h, o, s⟩
  have C_w7 : Hid (CL w w7 w.heap.size d l S7 ln4 [102] lR4) := Lib.hid (C_b.out.step h o s)
  rw [le4.1, show enoOf 0 = .nilIface from rfl]
  clear h o s C_w6 bb hse hou C_b
  go_wp2_with fail
  refine (add_to w7 _ d l S7 ln4 [102] lR4 4 (.slice none 0 0) [] C_w7.out.dl le5.2.1 le5.2.2.1 (by decide) Okb.nil (Seen.nil _) (fun j hj => by simp [Value.ownBlock] at hj) (by decide) le5.2.2.2).mono ?_
  rintro e w8 ⟨rfl, S8, h, o, s⟩
  have C_w8 : Hid (CL w w8 w.heap.size d l S8 ln5 [102] lR5) := Lib.hid (C_w7.out.step h o s)
  rw [le5.1, show enoOf 0 = .nilIface from rfl]
  clear h o s C_w7
  go_wp2_with fail
  refine (cut_to w8 _ d l S8 ln5 [102] lR5 5 C_w8.out.dl le6.2.1 le6.2.2 (by decide)).mono ?_
  rintro e w9 ⟨rfl, S9, h, o, s⟩
  have C_w9 : Hid (CL w w9 w.heap.size d l S9 ln6 [102] lR6) := Lib.hid (C_w8.out.step h o s)
  rw [le6.1, show enoOf 1 = eno 1 from if_neg (by decide)]
  clear h o s C_w8
  go_wp2_with fail
  refine (cut_to w9 _ d l S9 ln6 [102] lR6 12 C_w9.out.dl le7.2.1 le7.2.2 (by decide)).mono ?_
  rintro e w10 ⟨rfl, S10, h, o, s⟩
  have C_w10 : Hid (CL w w10 w.heap.size d l S10 ln7 [102] lR7) := Lib.hid (C_w9.out.step h o s)
  rw [le7.1, show enoOf 0 = .nilIface from rfl]
  clear h o s C_w9
  go_wp2_with fail
  refine (record_dl w10 _ d l S10 ln7 [102] lR7 0 C_w10.out.dl).mono ?_
  rintro e w11 ⟨vr0, rfl, oo, bb⟩
  rw [lr0] at oo ⊢
  have C_w11 := Lib.hid (C_w10.out.kb bb)
  have OX_w11 := Lib.hid oo
  have NX : Hid (∀ k, Value.ownBlock _ = some k → ¬ S10 k) := Lib.hid (fun k hk hs => by have h1 := (oo.lt k hk).1; have h2 := C_w10.out.dl.lt k hs; omega)
  obtain ⟨qr, rcap, e0⟩ := own_slice oo
  rw [show ([120, 121, 122] : List Int).length = 3 from rfl] at e0
  subst e0
  clear oo bb C_w10
  go_wp2_with fail
  refine (record_dl w11 _ d l S10 ln7 [102] lR7 1 C_w11.out.dl).mono ?_
  rintro e w12 ⟨vr1, rfl, oo, bb⟩
  rw [lr1] at oo ⊢
  have OX_w12 : Hid (BOwn w12 _ _ _) := Lib.hid (own_kept OX_w11.out (S := fun _ => False) (Only.of_below bb) (fun _ _ h => h))
  have C_w12 := Lib.hid (C_w11.out.kb bb)
  obtain ⟨qs, scap, e0⟩ := own_slice oo
  rw [show ([] : List Int).length = 0 from rfl] at e0
  subst e0
  clear oo bb C_w11
  go_wp2_with fail
  obtain ⟨Sd, hds, _, hcn⟩ := C_w12.out.dl.disk
  have HDS := Lib.hid hds
  have HCN := Lib.hid hcn
  clear hds hcn
  refine (open_to w12 _ d Sd ln7 [102] 11 HDS.out le8.2.1 le8.2.2.1 (by decide) (by rw [le8.2.2.2]; exact frm_ok 3 (okb_str (by decide)))).mono ?_
  rintro e w13 hp
  unfold OpenPost at hp
  rw [le8.1, if_neg (by decide)] at hp
  obtain ⟨vm, rfl, om, dm⟩ := hp
  obtain ⟨S13, h, o, s⟩ := HCN.out _ _ dm
  have C_w13 : Hid (CL w w13 w.heap.size d l S13 ln8 [102] lR7) := Lib.hid (C_w12.out.step h o s)
  have OX_w13 : Hid (BOwn w13 _ _ _) := Lib.hid (own_kept OX_w12.out o NX.out)
  have OM_w13 := Lib.hid om
  obtain ⟨tm, xm, rfl⟩ := om.iface
  clear h o s C_w12 dm HCN HDS om
  go_wp2_with fail
  have bb : Below w13.heap.size w13 (w13.alloc (.cells #[.int .u8 1] 5)) := (Below.refl _ w13).alloc (Nat.le_refl _) _
  have hse : Seen (w13.alloc (.cells #[.int .u8 1] 5)) (.slice (some ⟨w13.heap.size, 0, none⟩) 1 1) [1] := seen_one w13 1 1 (0, 0) (by decide)
  refine (scan_to (w13.alloc (.cells #[.int .u8 1] 5)) _ [1] (okb_one (by decide)) (by decide) (hse.elim (fun h => .inl h) (fun h => by obtain ⟨a, c, h1, h2, h3⟩ := h; cases h1; exact .inr ⟨_, 0, _, rfl, h2, fun j u hj => by have := h3 j u hj; rwa [Addr.add_lit] at this⟩)) sc0).mono ?_
  rintro e w14 ⟨rfl, b3⟩
  have b4 : Below w13.heap.size w13 w14 := bb.trans (b3.mono bb.size)
  have C_w14 := Lib.hid (C_w13.out.kb b4)
  have OM_w14 := Lib.hid (OM_w13.out.kb b4)
  have OX_w14 : Hid (BOwn w14 _ _ _) := Lib.hid (own_kept OX_w13.out (S := fun _ => False) (Only.of_below b4) (fun _ _ h => h))
  clear bb hse b3 b4 C_w13
  go_wp2_with fail
  refine (khand_num _ 1 (by decide) (HG.out.kb C_w14.out.bel)).mono ?_
  rintro e z0 ⟨rfl, bz⟩
  have O0 : Hid (BOwn z0 _ _ _) := Lib.hid (own_kept OX_w14.out (S := fun _ => False) (Only.of_below bz) (fun _ _ h => h))
  have E0 := Lib.hid (C_w14.out.kb bz)
  have N0 := Lib.hid (OM_w14.out.kb bz)
  clear bz OX_w14 C_w14 OM_w14
  go_wp2_with fail
  refine (khand_num _ 1 (by decide) (HG.out.kb E0.out.bel)).mono ?_
  rintro e z1 ⟨rfl, bz⟩
  have O1 : Hid (BOwn z1 _ _ _) := Lib.hid (own_kept O0.out (S := fun _ => False) (Only.of_below bz) (fun _ _ h => h))
  have E1 := Lib.hid (E0.out.kb bz)
  have N1 := Lib.hid (N0.out.kb bz)
  clear bz O0 E0 N0
  go_wp2_with fail
  refine (khand_num _ 3 (by decide) (HG.out.kb E1.out.bel)).mono ?_
  rintro e z2 ⟨rfl, bz⟩
  have O2 : Hid (BOwn z2 _ _ _) := Lib.hid (own_kept O1.out (S := fun _ => False) (Only.of_below bz) (fun _ _ h => h))
  have E2 := Lib.hid (E1.out.kb bz)
  have N2 := Lib.hid (N1.out.kb bz)
  clear bz O1 E1 N1
  go_wp2_with fail
  refine (khand_num _ 1 (by decide) (HG.out.kb E2.out.bel)).mono ?_
  rintro e z3 ⟨rfl, bz⟩
  have O3 : Hid (BOwn z3 _ _ _) := Lib.hid (own_kept O2.out (S := fun _ => False) (Only.of_below bz) (fun _ _ h => h))
  have E3 := Lib.hid (E2.out.kb bz)
  have N3 := Lib.hid (N2.out.kb bz)
  clear bz O2 E2 N2
  go_wp2_with fail
  refine (khand_num _ 6 (by decide) (HG.out.kb E3.out.bel)).mono ?_
  rintro e z4 ⟨rfl, bz⟩
  have O4 : Hid (BOwn z4 _ _ _) := Lib.hid (own_kept O3.out (S := fun _ => False) (Only.of_below bz) (fun _ _ h => h))
  have E4 := Lib.hid (E3.out.kb bz)
  have N4 := Lib.hid (N3.out.kb bz)
  clear bz O3 E3 N3
  go_wp2_with fail
  refine (khand_num _ 1 (by decide) (HG.out.kb E4.out.bel)).mono ?_
  rintro e z5 ⟨rfl, bz⟩
  have O5 : Hid (BOwn z5 _ _ _) := Lib.hid (own_kept O4.out (S := fun _ => False) (Only.of_below bz) (fun _ _ h => h))
  have E5 := Lib.hid (E4.out.kb bz)
  have N5 := Lib.hid (N4.out.kb bz)
  clear bz O4 E4 N4
  have hcv := conv_own O5.out
  rw [show strOfNums [120, 121, 122] = ⟨#[120, 121, 122]⟩ from rfl] at hcv
  go_wp2_with fail
  refine (len_dl z5 _ d l S13 ln8 [102] lR7 E5.out.dl).mono ?_
  rintro e w' ⟨rfl, rfl⟩
  rw [len_e]
  go_wp2_with fail
  refine (khand_operr _ _ 3 _ N5.out (by decide) (HG.out.kb E5.out.bel)).mono ?_
  rintro e z7 ⟨rfl, bz⟩
  have O7 : Hid (BOwn z7 _ _ _) := Lib.hid (own_kept O5.out (S := fun _ => False) (Only.of_below bz) (fun _ _ h => h))
  have E7 := Lib.hid (E5.out.kb bz)
  have N7 := Lib.hid (N5.out.kb bz)
  clear bz O5 E5 N5
  go_wp2_with fail
  go_ret
  exact ⟨rfl, E7.out.bel⟩
end Go.Proofs.YtcolkgeflokgeaaDoor
