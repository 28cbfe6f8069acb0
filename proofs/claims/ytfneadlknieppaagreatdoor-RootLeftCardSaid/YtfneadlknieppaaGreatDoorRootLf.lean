/- RootLeft returns true and makes new memory alone. Condition: errors.errorType holds what its text lays. -/
import Derived.Test.YtfneadlknieppaaGreatDoorRootM
import Derived.Test.YtfneadlknieppaaGreatDoorDskY
import Derived.Test.YtfneadlknieppaaGreatDoorDskRb
import Derived.Test.YtfneadlknieppaaGreatDoorGenFew3
import Derived.Deep.RegionHeld3
namespace Go.Proofs.YtfneadlknieppaaGreatDoor
open Go.RowKit
open Go.Maps

theorem iown_take {w : World} {B n c : Nat} {p : Option Addr} {l : List Int} (h : IOwn w B (.slice p n c) l) (hn : n = l.length) (m : Nat) (hm : m ≤ n) : IOwn w B (.slice p m c) (l.take m) := by
  have hlm : (l.take m).length = m := by rw [List.length_take]; omega
  unfold IOwn
  rw [hlm]
  refine ⟨by simp; omega, ?_⟩
  rcases h.2 with ⟨h1, h2⟩ | ⟨g, cap, cur, h1, hb, hg, hc, hx, hs, ht⟩
  · simp at h1
    obtain ⟨rfl, rfl, rfl⟩ := h1
    obtain rfl : m = 0 := by omega
    exact .inl ⟨rfl, rfl⟩
  · simp at h1
    obtain ⟨rfl, h3, rfl⟩ := h1
    refine .inr ⟨g, c, cur, rfl, hb, hg, by omega, hx, hs, ?_⟩
    rw [Nat.mul_one] at ht ⊢
    have : cur.toList.take m = (cur.toList.take l.length).take m := by rw [List.take_take]; congr 1; omega
    rw [this, ht]
    simp [iv, List.map_take]
theorem islice_upto {w : World} {p : Option Addr} {n cap : Nat} {j : Nat} (h : j ≤ n) (hc : n ≤ cap) (hp : p = none → n = 0 ∧ cap = 0) :
    (Instr.slice 29 (.slice p n cap) none (some (.int .i64 j)) none).run Tryz.prog w = .ok (.slice p j cap) w := by
  cases p with
  | none =>
    obtain ⟨rfl, rfl⟩ := hp rfl
    obtain rfl : j = 0 := by omega
    simp [Instr.slice, run_underlying Tryz.underlying29, go_sem]
  | some a =>
    have hj : (j : Int) ≤ cap := by omega
    simp [Instr.slice, run_underlying Tryz.underlying29, go_sem, hj]
theorem iown_cap {w : World} {B n c : Nat} {p : Option Addr} {l : List Int} (h : IOwn w B (.slice p n c) l) (hn : n = l.length) : n ≤ c ∧ (p = none → n = 0 ∧ c = 0) := by
  rcases h.2 with ⟨h1, h2⟩ | ⟨g, cap, cur, h1, hb, hg, hc, _⟩
  · simp at h1
    obtain ⟨rfl, rfl, rfl⟩ := h1
    exact ⟨Nat.le_refl _, fun _ => ⟨rfl, rfl⟩⟩
  · simp at h1
    obtain ⟨rfl, h3, rfl⟩ := h1
    exact ⟨by omega, fun e => by cases e⟩
/-- The root with no more than eight lengths. -/
def cutR (r : Rt) : Rt := ⟨r.gen, r.logs.take 8, r.idx⟩
/-- What is behind the appending of what a saving left. -/
theorem left_md {s : St} {o : Option (List Int)} {x : List Int} (h : Hd s o) (hk : aget nwN s.kept = none) (hf : s.fuse < 0) (hx : x.length ≤ 200) : ∃ K, Md (s.append nwN x).2 K [kAp x] ∧ Gf K o ∧ aget nwN K = none := by
  obtain ⟨K, hm, hg⟩ := h
  have hk' : aget nwN K = none := by rw [← hm.kept]; exact hk
  have hfi : s.files = K := by rw [hm.files]; rfl
  have hu : s.used = (fbytes rtN K).length := by
    have h9 : fbytes nwN K = [] := by unfold fbytes; rw [hk']; rfl
    show totF s.files = _
    rw [hfi, hg.tot, h9]; simp
  have ha : s.append nwN x = s.work (kAp x) := by
    have hs := hg.s1
    unfold St.append
    rw [if_neg (by decide), if_neg (by rw [hm.alive]; decide), if_neg (by rw [hm.room, hu]; omega)]
  rw [ha]
  rcases hm.work (kAp x) with hh | ⟨_, hh⟩
  · exfalso
    have := hh.err
    unfold St.work at this
    rw [if_neg (by omega)] at this
    cases this
  · exact ⟨K, hh, hg, hk'⟩
theorem Md.setFuse {s : St} {K : Fil} {P : List Wk} (h : Md s K P) (n : Int) : Md { s with fuse := n } K P := ⟨h.alive, h.kept, h.pend, h.room⟩
/-- The names at the end. -/
theorem hd_names {s : St} {b : List Int} (h : Hd s (some b)) (hk : aget nwN s.kept = none) : s.dead = false ∧ nms s.files = [rtN] := by
  obtain ⟨K, hm, hg⟩ := h
  have hfi : s.files = K := by rw [hm.files]; rfl
  refine ⟨hm.alive, ?_⟩
  rw [hfi, hg.names (by rw [← hm.kept]; exact hk)]
  rfl
/-- Its lengths laid anew. -/
theorem RM.setLogs {W : World} {S : Nat → Prop} {T b : Nat} {v v2 : Value} {r : Rt} {l2 : List Int} (h : RM W S T b v r) (o2 : IOwn W 0 v2 l2) (h2 : ∀ k, v2.ownBlock = some k → ¬ S k) (hT : T ≠ 3) : RM (W.setCell ⟨b, 1, none⟩ v2) S T b v2 ⟨r.gen, l2, r.idx⟩ := by
  have o : Only (fun k => k = b) W (W.setCell ⟨b, 1, none⟩ v2) := (Only.refl (fun k => k = b) W).setCell (p := ⟨b, 1, none⟩) rfl v2
  refine ⟨Lib.heap_setCell_same (i := 1) h.obj v2, own_kept o2 o (fun k hk e => ?_), h.nb, h2⟩
  obtain ⟨cs', hcs⟩ := own_type o2 hk
  rw [e, h.obj] at hcs
  simp at hcs
  exact hT hcs.2
theorem take_own {p : Option Addr} {n m c k : Nat} (h : (Value.slice p m c).ownBlock = some k) : (Value.slice p n c).ownBlock = some k := by
  cases p with
  | none => simp [Value.ownBlock] at h
  | some a => exact h
theorem left_first {W : World} {B n : Nat} {p : Option Addr} {c : Nat} {x : Key} (h : W.ownsRow B 9 1 (.slice p n c) [x].length ([x].map stv)) : ∃ g, p = some ⟨g, 0, none⟩ ∧ n = 1 ∧ W.cell? ⟨g, 0, none⟩ = some (stv x) := by
  rcases h.2 with ⟨_, h0⟩ | ⟨g, cap', cur, he, _⟩
  · simp at h0
  · cases he
    refine ⟨g, rfl, rfl, ?_⟩
    have := h.cells (g := g) rfl 0 (stv x) (by simp)
    rwa [Addr.add_lit] at this
set_option maxRecDepth 20000 in
set_option maxHeartbeats 16000000 in
theorem rootLeft_walk (w : World) (hg : Glob w) (x y : Rw) (xv yv lv : Value) (left : List Int) (fuse done cut : Int) (hx : ISeen w xv x.logs) (hy : ISeen w yv y.logs) (hl : Seen w lv left) :
    Calls Tryz.prog 4 #[rwv x xv, rwv y yv, lv, .int .i64 fuse, .int .i64 done, .int .i64 cut] w fun e w' => e = .returned (.bool true) ∧ Below w.heap.size w w' := by
  have HG := Lib.hid hg
  obtain ⟨px, cx, rfl, _⟩ := hx.form
  obtain ⟨py, cy, rfl, _⟩ := hy.form
  obtain ⟨pl, cl, rfl⟩ := len_val hl
  obtain ⟨nx, hnx⟩ : ∃ z, z = x.logs.length := ⟨_, rfl⟩
  obtain ⟨ny, hny⟩ : ∃ z, z = y.logs.length := ⟨_, rfl⟩
  obtain ⟨nl, hnl⟩ : ∃ z, z = left.length := ⟨_, rfl⟩
  rw [← hnx] at hx ⊢
  rw [← hny] at hy ⊢
  rw [← hnl] at hl ⊢
  have HX := Lib.hid hx
  have HY := Lib.hid hy
  have HLF := Lib.hid hl
  have HNL := Lib.hid hnl
  have hX1 := heap_alloc2_old w (.cells #[.int .i64 x.gen, .int .i64 x.idx, .int .i64 x.how, .slice px nx cx] 31) (.cells #[.int .i64 y.gen, .int .i64 y.idx, .int .i64 y.how, .slice py ny cy] 31)
  have hY1 := heap_alloc2_new w (.cells #[.int .i64 x.gen, .int .i64 x.idx, .int .i64 x.how, .slice px nx cx] 31) (.cells #[.int .i64 y.gen, .int .i64 y.idx, .int .i64 y.how, .slice py ny cy] 31)
  have B1 : Hid (Below w.heap.size w ((w.alloc (.cells #[.int .i64 x.gen, .int .i64 x.idx, .int .i64 x.how, .slice px nx cx] 31)).alloc (.cells #[.int .i64 y.gen, .int .i64 y.idx, .int .i64 y.how, .slice py ny cy] 31))) := Lib.hid (((Below.refl _ w).alloc (Nat.le_refl _) _).alloc (by simp) _)
  have HXY : Hid (∀ W, Below ((w.alloc (.cells #[.int .i64 x.gen, .int .i64 x.idx, .int .i64 x.how, .slice px nx cx] 31)).alloc (.cells #[.int .i64 y.gen, .int .i64 y.idx, .int .i64 y.how, .slice py ny cy] 31)).heap.size ((w.alloc (.cells #[.int .i64 x.gen, .int .i64 x.idx, .int .i64 x.how, .slice px nx cx] 31)).alloc (.cells #[.int .i64 y.gen, .int .i64 y.idx, .int .i64 y.how, .slice py ny cy] 31)) W → (W.cell? ⟨w.heap.size, 0, none⟩ = some (.int .i64 x.gen) ∧ W.cell? ⟨w.heap.size, 1, none⟩ = some (.int .i64 x.idx) ∧ W.cell? ⟨w.heap.size, 2, none⟩ = some (.int .i64 x.how) ∧ W.cell? ⟨w.heap.size, 3, none⟩ = some (.slice px nx cx)) ∧ (W.cell? ⟨w.heap.size + 1, 0, none⟩ = some (.int .i64 y.gen) ∧ W.cell? ⟨w.heap.size + 1, 1, none⟩ = some (.int .i64 y.idx) ∧ W.cell? ⟨w.heap.size + 1, 2, none⟩ = some (.int .i64 y.how) ∧ W.cell? ⟨w.heap.size + 1, 3, none⟩ = some (.slice py ny cy))) := Lib.hid (fun W hb =>
    ⟨four_cells ((hb.block _ (lt_of_block hX1)).trans hX1), four_cells ((hb.block _ (lt_of_block hY1)).trans hY1)⟩)
  clear hg hx hy hl hnx hny hnl hX1 hY1
  go_enter Tryz.func4, Tryz.ntmps4
  go_wp2_with fail
  generalize (w.alloc (.cells #[.int .i64 x.gen, .int .i64 x.idx, .int .i64 x.how, .slice px nx cx] 31)).alloc (.cells #[.int .i64 y.gen, .int .i64 y.idx, .int .i64 y.how, .slice py ny cy] 31) = w1 at B1 HXY ⊢
  refine (new_to w1 100000).mono ?_
  rintro e w2 ⟨d, S, rfl, d1, b1, g1⟩
  have BW2 : Hid (Below w1.heap.size w1 w2) := Lib.hid b1
  have C2 : Hid (Cl w w2 w1.heap.size d S (St.new 100000)) := Lib.hid ⟨d1, B1.out.trans (b1.mono B1.out.size), fun k hk => Nat.le_trans B1.out.size (g1 k hk)⟩
  clear d1 b1 g1 B1
  obtain ⟨BB, hBB⟩ : ∃ z, z = w1.heap.size := ⟨_, rfl⟩
  rw [← hBB] at C2
  clear hBB
  go_wp2_with fail
  refine (known8_to w2 (HG.out.kb C2.out.bel)).mono ?_
  rintro e w3 ⟨rfl, b3⟩
  have C3 := Lib.hid (C2.out.kb b3)
  have BW3 : Hid (Below w1.heap.size w1 w3) := Lib.hid (BW2.out.trans (b3.mono BW2.out.size))
  clear b3 C2 BW2
  obtain ⟨⟨x0, x1, x2, x3⟩, _⟩ := HXY.out w3 BW3.out
  go_wp2_with fail
  clear x0 x1 x2 x3
  refine (one_to w3 x _ (HX.out.kb C3.out.bel)).mono ?_
  rintro e w4 ⟨va, rfl, ova, b4⟩
  obtain ⟨Ra, hRa⟩ : ∃ z, z = oneR x := ⟨_, rfl⟩
  have HRNa : Hid (Ra.logs.length ≤ 10) := Lib.hid (by rw [hRa]; exact oneR_len _)
  rw [← hRa] at ova ⊢
  obtain ⟨pa, ca, rfl⟩ := own_slice ova
  have C4 := Lib.hid (C3.out.kb b4)
  have BW4 : Hid (Below w1.heap.size w1 w4) := Lib.hid (BW3.out.trans (b4.mono BW3.out.size))
  have OVA := Lib.hid ova
  have OVSA : Hid (∀ k, (Value.slice pa Ra.logs.length ca).ownBlock = some k → ¬ S k) := Lib.hid (fun k hk e => by have h1 := (ova.lt k hk).1; have h2 := C3.out.ds.lt _ e; omega)
  clear ova b4 C3 BW3 hRa
  have b5 : Below w4.heap.size w4 (w4.alloc (.cells #[.int .i64 Ra.gen, .slice pa Ra.logs.length ca, .int .i64 Ra.idx] 45)) := (Below.refl _ _).alloc (Nat.le_refl _) _
  have RA5 := Lib.hid (RM.new (S := S) (T := 45) OVA.out C4.out.ds.lt OVSA.out rfl rfl rfl)
  have C5 := Lib.hid (C4.out.kb b5)
  have BW5 : Hid (Below w1.heap.size w1 (w4.alloc (.cells #[.int .i64 Ra.gen, .slice pa Ra.logs.length ca, .int .i64 Ra.idx] 45))) := Lib.hid (BW4.out.trans (b5.mono BW4.out.size))
  obtain ⟨_, ⟨y0, y1, y2, y3⟩⟩ := HXY.out _ BW5.out
  have HAG : Hid (w.heap.size ≤ w4.heap.size) := Lib.hid C4.out.bel.size
  clear b5 C4 BW4 OVA OVSA
  go_wp2_with fail
  clear y0 y1 y2 y3
  generalize w4.alloc (.cells #[.int .i64 Ra.gen, .slice pa Ra.logs.length ca, .int .i64 Ra.idx] 45) = w5 at RA5 C5 BW5 ⊢
  obtain ⟨ab, hab⟩ : ∃ z, z = w4.heap.size := ⟨_, rfl⟩
  rw [← hab] at RA5 HAG ⊢
  clear hab
  refine (one_to w5 y _ (HY.out.kb C5.out.bel)).mono ?_
  rintro e w6 ⟨vb, rfl, ovb, b6⟩
  obtain ⟨Rb, hRb⟩ : ∃ z, z = oneR y := ⟨_, rfl⟩
  have HRNb : Hid (Rb.logs.length ≤ 10) := Lib.hid (by rw [hRb]; exact oneR_len _)
  rw [← hRb] at ovb ⊢
  obtain ⟨pb, cb, rfl⟩ := own_slice ovb
  have C6 := Lib.hid (C5.out.kb b6)
  have RA6 := Lib.hid (RA5.out.kb b6)
  have OVB := Lib.hid ovb
  have OVSB : Hid (∀ k, (Value.slice pb Rb.logs.length cb).ownBlock = some k → ¬ S k) := Lib.hid (fun k hk e => by have h1 := (ovb.lt k hk).1; have h2 := C5.out.ds.lt _ e; omega)
  clear ovb b6 C5 RA5 BW5 hRb HXY
  go_upto_region 6 with fail
  have b7 : Below w6.heap.size w6 (w6.alloc (.cells #[.int .i64 Rb.gen, .slice pb Rb.logs.length cb, .int .i64 Rb.idx] 45)) := (Below.refl _ _).alloc (Nat.le_refl _) _
  have RB7 := Lib.hid (RM.new (S := S) (T := 45) OVB.out C6.out.ds.lt OVSB.out rfl rfl rfl)
  have C7 := Lib.hid (C6.out.kb b7)
  have RA7 := Lib.hid (RA6.out.kb b7)
  have HAB : Hid (ab ≠ w6.heap.size) := Lib.hid (fun e => by have := RA6.out.lt; omega)
  have HBG : Hid (w.heap.size ≤ w6.heap.size) := Lib.hid C6.out.bel.size
  clear b7 C6 RA6 OVB OVSB
  generalize w6.alloc (.cells #[.int .i64 Rb.gen, .slice pb Rb.logs.length cb, .int .i64 Rb.idx] 45) = w7 at RB7 C7 RA7 ⊢
  obtain ⟨bb, hbb⟩ : ∃ z, z = w6.heap.size := ⟨_, rfl⟩
  rw [← hbb] at RB7 HAB HBG ⊢
  clear hbb
  obtain ⟨ma, hma⟩ : ∃ z, z = min Ra.logs.length 8 := ⟨_, rfl⟩
  have HMma := Lib.hid hma
  have hmin : min (Ra.logs.length : Int) 8 = (ma : Int) := by omega
  have hcap := iown_cap RA7.out.own rfl
  have hsl : ∀ W, (Instr.slice 29 (.slice pa Ra.logs.length ca) none (some (.int .i64 ma)) none).run Tryz.prog W = .ok (.slice pa ma ca) W := fun W => islice_upto (by omega) hcap.1 hcap.2
  have OT := Lib.hid (iown_take RA7.out.own rfl ma (by omega))
  clear hma
  obtain ⟨n0, n1, n2, nf⟩ := RA7.out.cells
  go_upto_region 7 with fail
  have HO : Hid (Only (fun k => k = ab) w7 (w7.setCell ⟨ab, 1, none⟩ (.slice pa ma ca))) := Lib.hid ((Only.refl (fun k => k = ab) w7).setCell (p := ⟨ab, 1, none⟩) rfl _)
  have R8 := Lib.hid (RA7.out.setLogs OT.out (fun k hk => RA7.out.out k (take_own hk)) (by decide))
  have O8 := Lib.hid (RB7.out.other HO.out HAB.out.symm RA7.out.obj (by decide))
  have C8 := Lib.hid (C7.out.other HO.out HAG.out RA7.out.nb)
  obtain ⟨A, hA⟩ : ∃ z : Rt, z = ⟨Ra.gen, Ra.logs.take ma, Ra.idx⟩ := ⟨_, rfl⟩
  rw [← hA] at R8
  obtain rfl : ma = A.logs.length := by rw [hA]; show _ = (Ra.logs.take ma).length; rw [List.length_take]; have := HMma.out; omega
  clear hmin hcap hsl OT n0 n1 n2 nf RA7 RB7 C7 HO hA HMma
  generalize w7.setCell ⟨ab, 1, none⟩ (.slice pa A.logs.length ca) = w8 at R8 O8 C8 ⊢
  obtain ⟨mb, hmb⟩ : ∃ z, z = min Rb.logs.length 8 := ⟨_, rfl⟩
  have HMmb := Lib.hid hmb
  have hmin : min (Rb.logs.length : Int) 8 = (mb : Int) := by omega
  have hcap := iown_cap O8.out.own rfl
  have hsl : ∀ W, (Instr.slice 29 (.slice pb Rb.logs.length cb) none (some (.int .i64 mb)) none).run Tryz.prog W = .ok (.slice pb mb cb) W := fun W => islice_upto (by omega) hcap.1 hcap.2
  have OT := Lib.hid (iown_take O8.out.own rfl mb (by omega))
  clear hmb
  obtain ⟨n0, n1, n2, nf⟩ := O8.out.cells
  go_upto_region 8 with fail
  have HO : Hid (Only (fun k => k = bb) w8 (w8.setCell ⟨bb, 1, none⟩ (.slice pb mb cb))) := Lib.hid ((Only.refl (fun k => k = bb) w8).setCell (p := ⟨bb, 1, none⟩) rfl _)
  have R9 := Lib.hid (O8.out.setLogs OT.out (fun k hk => O8.out.out k (take_own hk)) (by decide))
  have O9 := Lib.hid (R8.out.other HO.out HAB.out O8.out.obj (by decide))
  have C9 := Lib.hid (C8.out.other HO.out HBG.out O8.out.nb)
  obtain ⟨Q, hQ⟩ : ∃ z : Rt, z = ⟨Rb.gen, Rb.logs.take mb, Rb.idx⟩ := ⟨_, rfl⟩
  rw [← hQ] at R9
  obtain rfl : mb = Q.logs.length := by rw [hQ]; show _ = (Rb.logs.take mb).length; rw [List.length_take]; have := HMmb.out; omega
  clear hmin hcap hsl OT n0 n1 n2 nf O8 R8 C8 HO hQ HMmb
  generalize w8.setCell ⟨bb, 1, none⟩ (.slice pb Q.logs.length cb) = w9 at R9 O9 C9 ⊢
  obtain ⟨n0, n1, n2, _⟩ := O9.out.cells
  go_wp2_with fail
  clear n0 n1 n2
  refine (rlay_to w9 A.gen A.idx _ A.logs O9.out.seen).mono ?_
  rintro e w10 ⟨v10, rfl, o10, b10⟩
  obtain ⟨p10, c10, rfl⟩ := own_slice o10
  rw [show (⟨A.gen, A.logs, A.idx⟩ : Rt) = A from rfl]
  have A10 := Lib.hid (O9.out.kb b10)
  have Q10 := Lib.hid (R9.out.kb b10)
  have C10 := Lib.hid (C9.out.kb b10)
  clear b10 o10 O9 R9 C9
  by_cases hok : okR A = true
  case neg =>
    have hnn : ∀ W, (binOp .neq 41 (eno 1) .nilIface).run Tryz.prog W = .ok (.bool true) W := fun W => by kernel_rfl
    rw [layR_no hok, show enoOf 1 = eno 1 from rfl]
    clear hok
    go_wp2_with fail
    go_ret
    exact ⟨rfl, C10.out.bel⟩
  have OKA := Lib.hid hok
  rw [layR_yes hok, show enoOf 0 = .nilIface from rfl]
  clear hok
  obtain ⟨n0, n1, n2, _⟩ := Q10.out.cells
  go_wp2_with fail
  clear n0 n1 n2
  refine (rlay_to w10 Q.gen Q.idx _ Q.logs Q10.out.seen).mono ?_
  rintro e w11 ⟨v11, rfl, o11, b11⟩
  obtain ⟨p11, c11, rfl⟩ := own_slice o11
  rw [show (⟨Q.gen, Q.logs, Q.idx⟩ : Rt) = Q from rfl]
  have A11 := Lib.hid (A10.out.kb b11)
  have Q11 := Lib.hid (Q10.out.kb b11)
  have C11 := Lib.hid (C10.out.kb b11)
  clear b11 o11 A10 Q10 C10
  by_cases hok : okR Q = true
  case neg =>
    have hnn : ∀ W, (binOp .neq 41 (eno 1) .nilIface).run Tryz.prog W = .ok (.bool true) W := fun W => by kernel_rfl
    rw [layR_no hok, show enoOf 1 = eno 1 from rfl]
    clear hok
    go_wp2_with fail
    go_ret
    exact ⟨rfl, C11.out.bel⟩
  have OKQ := Lib.hid hok
  rw [layR_yes hok, show enoOf 0 = .nilIface from rfl]
  clear hok
  obtain ⟨n0, n1, n2, _⟩ := A11.out.cells
  go_wp2_with fail
  clear n0 n1 n2
  have HSV := Lib.hid (rsave_to w11 _ d S _ A.gen A.idx _ A.logs C11.out.ds ((Sk.new 100000).sm (by decide)) A11.out.seen)
  rw [show (⟨A.gen, A.logs, A.idx⟩ : Rt) = A from rfl, svS_yes OKA.out] at HSV
  refine HSV.out.mono ?_
  rintro e w12 ⟨v12, rfl, he, S12, d12, o12, s12⟩
  have HOK1 := Lib.hid (save_ok Hd.new (encR_len OKA.out) (by show (-1 : Int) < 0; decide))
  have K0 : Hid (Sk (saveS (St.new 100000) (encR A)).2 5) := Lib.hid (by have := (Sk.new 100000).wb (wb_save (St.new 100000) (encR A)); exact this)
  obtain ⟨t, ht⟩ : ∃ z, z = saveS (St.new 100000) (encR A) := ⟨_, rfl⟩
  rw [← ht] at he d12 HOK1 K0
  have hv12 : v12 = .nilIface := by
    rcases he with ⟨_, h⟩ | ⟨h, _⟩ | ⟨h, _⟩
    · exact h
    · exact absurd HOK1.out.1 h
    · exact absurd HOK1.out.1 h
  subst hv12
  have Q12 := Lib.hid (Q11.out.step o12 s12)
  have C12 := Lib.hid (C11.out.step d12 o12 s12)
  clear he d12 o12 s12 HSV ht A11 Q11 C11
  obtain ⟨t1, ht1⟩ : ∃ z, z = t.2 := ⟨_, rfl⟩
  rw [← ht1] at HOK1 K0 C12
  clear ht1
  go_wp2_with fail
  have HFW := Lib.hid (few_nb w12 (.slice pl nl cl) left 100 (by decide) (HLF.out.kb C12.out.bel))
  refine HFW.out.mono ?_
  rintro e w13 ⟨gx, cx1, rfl, ox, b13⟩
  obtain ⟨X, hX⟩ : ∃ z, z = left.take 100 := ⟨_, rfl⟩
  rw [← hX] at ox ⊢
  have HXL : Hid (X.length ≤ 100) := Lib.hid (by rw [hX]; exact List.length_take_le _ _)
  have HXS := Lib.hid (Seen.own ox)
  have HXO : Hid (∀ k, (Value.slice (some ⟨gx, 0, none⟩) X.length cx1).ownBlock = some k → ¬ S12 k) := Lib.hid (fun k hk e => by have h1 := (ox.lt k hk).1; have h2 := C12.out.ds.lt _ e; omega)
  have Q13 := Lib.hid (Q12.out.kb b13)
  have C13 := Lib.hid (C12.out.kb b13)
  clear b13 ox HFW Q12 C12 hX
  go_wp2_with fail
  refine (append_to w13 _ d S12 t1 nwN _ X C13.out.ds (Nat.le_trans K0.out.works (by decide)) (Int.lt_trans K0.out.fuse (by decide)) (by decide) HXS.out HXO.out (Nat.le_trans HXL.out (by decide))).mono ?_
  rintro e w14 ⟨rfl, S14, d14, o14, s14⟩
  have HLM := Lib.hid (left_md HOK1.out.2.1 HOK1.out.2.2.1 HOK1.out.2.2.2 (Nat.le_trans HXL.out (by decide)))
  have K1 : Hid (Sk (t1.append nwN X).2 6) := Lib.hid (by have := K0.out.wb (wb_append t1 nwN X); exact this)
  obtain ⟨q, hq⟩ : ∃ z, z = t1.append nwN X := ⟨_, rfl⟩
  rw [← hq] at d14 HLM K1 ⊢
  have Q14 := Lib.hid (Q13.out.step o14 s14)
  have C14 := Lib.hid (C13.out.step d14 o14 s14)
  obtain ⟨ev, hev⟩ : ∃ z, z = enoOf q.1 := ⟨_, rfl⟩
  obtain ⟨t2, ht2⟩ : ∃ z, z = q.2 := ⟨_, rfl⟩
  rw [← hev]
  rw [← ht2] at C14 HLM K1
  have HXL2 := HXL
  clear d14 o14 s14 hq hev ht2 HOK1 K0 HXS HXO HXL Q13 C13
  go_wp2_with (go_at_call 5; refine (pick_any _ fuse 6 (by decide) (by decide)).mono ?_; rintro e w' ⟨rfl, rfl⟩)
  refine (fuse8_ds w14 _ d S14 t2 (fuse % 6) C14.out.ds).mono ?_
  rintro e w15 ⟨rfl, S15, d15, o15, s15⟩
  have K2 : Hid (Sk { t2 with fuse := fuse % 6 } 6) := Lib.hid (K1.out.setFuse (by omega))
  have HLM2 : Hid (∃ K, Md { t2 with fuse := fuse % 6 } K [kAp X] ∧ Gf K (some (encR A)) ∧ aget nwN K = none) := Lib.hid (by obtain ⟨K, h1, h2, h3⟩ := HLM.out; exact ⟨K, h1.setFuse _, h2, h3⟩)
  obtain ⟨t3, ht3⟩ : ∃ z : St, z = { t2 with fuse := fuse % 6 } := ⟨_, rfl⟩
  rw [← ht3] at K2 HLM2 d15
  have Q15 := Lib.hid (Q14.out.step o15 s15)
  have C15 := Lib.hid (C14.out.step d15 o15 s15)
  clear d15 o15 s15 ht3 HLM K1 Q14 C14
  obtain ⟨n0, n1, n2, _⟩ := Q15.out.cells
  go_wp2_with fail
  clear n0 n1 n2
  have HSV := Lib.hid (rsave_to w15 _ d S15 t3 Q.gen Q.idx _ Q.logs C15.out.ds (K2.out.sm (by decide)) Q15.out.seen)
  rw [show (⟨Q.gen, Q.logs, Q.idx⟩ : Rt) = Q from rfl, svS_yes OKQ.out] at HSV
  refine HSV.out.mono ?_
  rintro e w16 ⟨v16, rfl, _, S16, d16, o16, s16⟩
  have HCR : Hid (∃ o, Hd ((saveS t3 (encR Q)).2.crash done cut) o) := Lib.hid (by
    obtain ⟨K, h1, h2, h3⟩ := HLM2.out
    rcases save_left h1 h2 h3 (Nat.le_trans HXL2.out (by decide)) (encR_len OKQ.out) with ⟨K', P', hf, hc⟩ | ⟨_, hh, _⟩
    · rcases hf.crash hc done cut with h | h
      · exact ⟨_, h⟩
      · exact ⟨_, h⟩
    · exact ⟨_, hh.crash _ _⟩)
  have K3 : Hid (Sk (saveS t3 (encR Q)).2 11) := Lib.hid (by have := K2.out.wb (wb_save t3 (encR Q)); exact this)
  obtain ⟨t4, ht4⟩ : ∃ z, z = (saveS t3 (encR Q)).2 := ⟨_, rfl⟩
  rw [← ht4] at d16 HCR K3
  have Q16 := Lib.hid (Q15.out.step o16 s16)
  have C16 := Lib.hid (C15.out.step d16 o16 s16)
  clear d16 o16 s16 ht4 HLM2 K2 HSV Q15 C15
  go_wp2_with fail
  refine (crash_to w16 _ d S16 t4 done cut C16.out.ds (Nat.le_trans K3.out.works (by decide))).mono ?_
  rintro e w17 ⟨rfl, S17, d17, o17, s17⟩
  have K4 : Hid (Sk (t4.crash done cut) 11 ∧ (t4.crash done cut).fuse < 0) := Lib.hid ⟨K3.out.crash _ _, by show (-1 : Int) < 0; decide⟩
  obtain ⟨t5, ht5⟩ : ∃ z, z = t4.crash done cut := ⟨_, rfl⟩
  rw [← ht5] at d17 HCR K4
  have Q17 := Lib.hid (Q16.out.step o17 s17)
  have C17 := Lib.hid (C16.out.step d17 o17 s17)
  clear d17 o17 s17 ht5 K3 Q16 C16
  obtain ⟨n0, n1, n2, _⟩ := Q17.out.cells
  go_wp2_with fail
  clear n0 n1 n2
  have HSV := Lib.hid (rsave_to w17 _ d S17 t5 Q.gen Q.idx _ Q.logs C17.out.ds (K4.out.1.sm (by decide)) Q17.out.seen)
  rw [show (⟨Q.gen, Q.logs, Q.idx⟩ : Rt) = Q from rfl, svS_yes OKQ.out] at HSV
  refine HSV.out.mono ?_
  rintro e w18 ⟨v18, rfl, he, S18, d18, o18, s18⟩
  have HOK2 : Hid ((saveS t5 (encR Q)).1 = 0 ∧ Hd (saveS t5 (encR Q)).2 (some (encR Q)) ∧ aget nwN (saveS t5 (encR Q)).2.kept = none) := Lib.hid (by
    obtain ⟨o, h⟩ := HCR.out
    obtain ⟨h1, h2, h3, _⟩ := save_ok h (encR_len OKQ.out) K4.out.2
    exact ⟨h1, h2, h3⟩)
  have K5 : Hid (Sk (saveS t5 (encR Q)).2 16) := Lib.hid (by have := K4.out.1.wb (wb_save t5 (encR Q)); exact this)
  obtain ⟨tt, htt⟩ : ∃ z, z = saveS t5 (encR Q) := ⟨_, rfl⟩
  rw [← htt] at he d18 HOK2 K5
  have hv18 : v18 = .nilIface := by
    rcases he with ⟨_, h⟩ | ⟨h, _⟩ | ⟨h, _⟩
    · exact h
    · exact absurd HOK2.out.1 h
    · exact absurd HOK2.out.1 h
  subst hv18
  have Q18 := Lib.hid (Q17.out.step o18 s18)
  have C18 := Lib.hid (C17.out.step d18 o18 s18)
  obtain ⟨t6, ht6⟩ : ∃ z, z = tt.2 := ⟨_, rfl⟩
  rw [← ht6] at HOK2 K5 C18
  clear he d18 o18 s18 HSV htt ht6 K4 HCR Q17 C17
  go_wp2_with fail
  refine (rload_to w18 _ d S18 t6 C18.out.ds (by rw [HOK2.out.2.1.load.2]; exact encR_ok Q)).mono ?_
  rintro e w19 ⟨gL, vL, iL, cL, lL, rfl, ovL, hlL, b19⟩
  obtain ⟨rfl, hLR⟩ := HOK2.out.2.1.ldsome OKQ.out hlL
  obtain ⟨L, hL⟩ : ∃ z : Rt, z = ⟨gL, lL, iL⟩ := ⟨_, rfl⟩
  have HLR : Hid (L = Q) := Lib.hid (by rw [hL]; exact hLR)
  obtain ⟨rfl, rfl, rfl⟩ : gL = L.gen ∧ lL = L.logs ∧ iL = L.idx := by rw [hL]; exact ⟨rfl, rfl, rfl⟩
  obtain ⟨pv, cv, rfl⟩ := own_slice ovL
  rw [show enoOf 0 = .nilIface from rfl]
  have OVL := Lib.hid ovL
  have OVS : Hid (∀ k, (Value.slice pv L.logs.length cv).ownBlock = some k → ¬ S18 k) := Lib.hid (fun k hk e => by have h1 := (ovL.lt k hk).1; have h2 := C18.out.ds.lt _ e; omega)
  have Q19 := Lib.hid (Q18.out.kb b19)
  have C19 := Lib.hid (C18.out.kb b19)
  clear ovL hlL hLR hL b19 Q18 C18
  go_upto_region 23 with fail
  have b20 : Below w19.heap.size w19 (w19.alloc (.cells #[.int .i64 L.gen, .slice pv L.logs.length cv, .int .i64 L.idx] 45)) := (Below.refl _ _).alloc (Nat.le_refl _) _
  have LL := Lib.hid (RM.new (S := S18) (T := 45) OVL.out C19.out.ds.lt OVS.out rfl rfl rfl)
  have Q20 := Lib.hid (Q19.out.kb b20)
  have C20 := Lib.hid (C19.out.kb b20)
  clear b20 OVL OVS Q19 C19
  generalize w19.alloc (.cells #[.int .i64 L.gen, .slice pv L.logs.length cv, .int .i64 L.idx] 45) = w20 at LL Q20 C20 ⊢
  obtain ⟨qb, hqb⟩ : ∃ z, z = w19.heap.size := ⟨_, rfl⟩
  rw [← hqb] at LL ⊢
  clear hqb
  go_wp2_with fail
  refine (names_to w20 _ d S18 t6 C20.out.ds (Nat.le_trans K5.out.works (by decide))).mono ?_
  rintro e wl ⟨vn, rfl, on, bn⟩
  obtain ⟨hdd, hnm⟩ := hd_names HOK2.out.2.1 HOK2.out.2.2
  rw [hdd, hnm] at on
  simp only [Bool.false_eq_true, if_false] at on
  obtain ⟨pn, cn, rfl⟩ := own_slice on
  obtain ⟨gn, rfl, _, hcn⟩ := left_first on
  have LLx := Lib.hid (LL.out.kb bn)
  have QQ := Lib.hid (Q20.out.kb bn)
  have CC := Lib.hid (C20.out.kb bn)
  have HCN : Hid (wl.cell? ⟨gn, 0, none⟩ = some (.string sroot)) := Lib.hid hcn
  have HL1 : ([rtN] : List Key).length = 1 := rfl
  rw [HL1]
  clear hdd hnm on bn hcn HL1 LL Q20 C20
  have HLL : Hid (L.logs.length ≤ 1000000) := Lib.hid (by have h1 := (okR_iff.1 OKQ.out).2.2.1; rw [HLR.out]; exact Nat.le_trans h1 (by decide))
  have HLI : Hid (∀ W, Below wl.heap.size wl W → ISeen W (.slice pv L.logs.length cv) L.logs) := Lib.hid (fun W hb => LLx.out.seen.kb hb)
  have HRI : Hid (∀ W, Below wl.heap.size wl W → ISeen W (.slice pb Q.logs.length cb) Q.logs) := Lib.hid (fun W hb => QQ.out.seen.kb hb)
  have HS2 : Hid (∀ W, Below wl.heap.size wl W → W.cell? ⟨qb, 0, none⟩ = some (.int .i64 L.gen) ∧ W.cell? ⟨qb, 1, none⟩ = some (.slice pv L.logs.length cv) ∧ W.cell? ⟨qb, 2, none⟩ = some (.int .i64 L.idx) ∧ W.cell? ⟨bb, 0, none⟩ = some (.int .i64 Q.gen) ∧ W.cell? ⟨bb, 1, none⟩ = some (.slice pb Q.logs.length cb) ∧ W.cell? ⟨bb, 2, none⟩ = some (.int .i64 Q.idx) ∧ W.cell? ⟨gn, 0, none⟩ = some (.string sroot)) := Lib.hid (fun W hb => by
    obtain ⟨a0, a1, a2, _⟩ := (LLx.out.kb hb).cells
    obtain ⟨b0, b1, b2, _⟩ := (QQ.out.kb hb).cells
    exact ⟨a0, a1, a2, b0, b1, b2, by rw [World.cell?_of_block (w := wl) (hb.block _ (World.block_lt_of_cell? wl _ HCN.out))]; exact HCN.out⟩)
  have HSF : Hid (sameR L Q = true) := Lib.hid (sameR_iff.2 HLR.out)
  obtain ⟨lm, hlm⟩ : ∃ z, z = L.logs.length := ⟨_, rfl⟩
  obtain ⟨rm, hrm⟩ : ∃ z, z = Q.logs.length := ⟨_, rfl⟩
  rw [← hlm] at HS2 HLI ⊢
  rw [← hrm] at HS2 HRI ⊢
  clear hlm hrm LLx QQ
  go_wp2_with fail
  have q0 := HS2.out wl.drew (below_dw (Below.refl _ _))
  try simp only [List.append]
  refine wp_region_noPanic ?_
  refine wp_region_held_drew (S := (fun W => W.cell? ⟨qb, 0, none⟩ = some (.int .i64 L.gen) ∧ W.cell? ⟨qb, 1, none⟩ = some (.slice pv lm cv) ∧ W.cell? ⟨qb, 2, none⟩ = some (.int .i64 L.idx) ∧ W.cell? ⟨bb, 0, none⟩ = some (.int .i64 Q.gen) ∧ W.cell? ⟨bb, 1, none⟩ = some (.slice pb rm cb) ∧ W.cell? ⟨bb, 2, none⟩ = some (.int .i64 Q.idx) ∧ W.cell? ⟨gn, 0, none⟩ = some (.string sroot))) (by kernel_rfl) q0 (fun hHeld => ?_)
  refine wpAnyH_take (i := 0) (v := ?_) (by simp only [List.getElem?_toArray, List.getElem?_cons_zero]; rfl) (by kernel_rfl) (by kernel_rfl) (by kernel_rfl) (fun _ _ _ h => h) (Or.inl ⟨by rfl, ?_⟩) (by assumption) ?_
  rotate_left
  · intro w hSw
    try dsimp only at hSw
    go_simp
    try with_reducible rfl
  try simp only [Act.put, List.setIfInBounds_toArray, List.set_cons_zero, List.set_cons_succ]
  refine wpAnyH_take (i := 1) (v := (.bool true)) (by simp only [List.getElem?_toArray, List.getElem?_cons_succ, List.getElem?_cons_zero]; rfl) (by kernel_rfl) (by kernel_rfl) (by kernel_rfl) (fun _ _ _ h => h) (Or.inl ⟨by rfl, ?_⟩) (by assumption) ?_
  · intro w hSw
    try dsimp only at hSw
    go_simp
  try simp only [Act.put, List.setIfInBounds_toArray, List.set_cons_zero, List.set_cons_succ]
  refine wpAnyH_take (i := 2) (v := ?_) (by simp only [List.getElem?_toArray, List.getElem?_cons_succ, List.getElem?_cons_zero]; rfl) (by kernel_rfl) (by kernel_rfl) (by kernel_rfl) (fun _ _ _ h => h) (Or.inl ⟨by rfl, ?_⟩) (by assumption) ?_
  rotate_left
  · intro w hSw
    try dsimp only at hSw
    go_simp
    try with_reducible rfl
  try simp only [Act.put, List.setIfInBounds_toArray, List.set_cons_zero, List.set_cons_succ]
  refine wpAnyH_take (i := 3) (v := ?_) (by simp only [List.getElem?_toArray, List.getElem?_cons_succ, List.getElem?_cons_zero]; rfl) (by kernel_rfl) (by kernel_rfl) (by kernel_rfl) (fun _ _ _ h => h) (Or.inl ⟨by rfl, ?_⟩) (by assumption) ?_
  rotate_left
  · intro w hSw
    try dsimp only at hSw
    go_simp
    try with_reducible rfl
  try simp only [Act.put, List.setIfInBounds_toArray, List.set_cons_zero, List.set_cons_succ]
  refine wpAnyH_take (i := 5) (v := ?_) (by simp only [List.getElem?_toArray, List.getElem?_cons_succ, List.getElem?_cons_zero]; rfl) (by kernel_rfl) (by kernel_rfl) (by kernel_rfl) (fun _ _ _ h => h) (Or.inl ⟨by rfl, ?_⟩) (by assumption) ?_
  rotate_left
  · intro w hSw
    try dsimp only at hSw
    go_simp
    try with_reducible rfl
  try simp only [Act.put, List.setIfInBounds_toArray, List.set_cons_zero, List.set_cons_succ]
  refine wpAnyH_ready (rs := [4]) (by kernel_rfl) (by simp) ?_
  refine AllReadyH.cons (by simp only [List.getElem?_toArray, List.getElem?_cons_succ, List.getElem?_cons_zero]; rfl) (fun K hK => ?_) AllReadyH.nil
  go_simp
  refine (plain_to wl.drew L.gen L.idx pv lm cv).mono ?_
  rintro e v4 ⟨rfl, bb1⟩
  have BV4 : Hid (Below wl.heap.size wl v4) := Lib.hid ⟨bb1.os, bb1.tape, bb1.output, bb1.size, bb1.block⟩
  have q1 := HS2.out v4 BV4.out
  clear bb1
  go_wp2_with fail
  refine hK.out _ _ q1 (fun hHeld => ?_)
  clear hK K
  try simp only [Act.put, List.setIfInBounds_toArray, List.set_cons_zero, List.set_cons_succ]
  refine wpAnyH_ready (rs := [6]) (by kernel_rfl) (by simp) ?_
  refine AllReadyH.cons (by simp only [List.getElem?_toArray, List.getElem?_cons_succ, List.getElem?_cons_zero]; rfl) (fun K hK => ?_) AllReadyH.nil
  go_simp
  refine (plain_to v4 Q.gen Q.idx pb rm cb).mono ?_
  rintro e v5 ⟨rfl, bb1⟩
  have BV5 : Hid (Below wl.heap.size wl v5) := Lib.hid (BV4.out.trans (bb1.mono BV4.out.size))
  have q2 := HS2.out v5 BV5.out
  clear bb1
  go_wp2_with fail
  refine hK.out _ _ q2 (fun hHeld => ?_)
  clear hK K
  try simp only [Act.put, List.setIfInBounds_toArray, List.set_cons_zero, List.set_cons_succ]
  refine wpAnyH_ready (rs := [7]) (by kernel_rfl) (by simp) ?_
  refine AllReadyH.cons (by simp only [List.getElem?_toArray, List.getElem?_cons_succ, List.getElem?_cons_zero]; rfl) (fun K hK => ?_) AllReadyH.nil
  go_simp
  refine (sameRoot_to v5 L.gen L.idx Q.gen Q.idx (.slice pv lm cv) (.slice pb rm cb) L.logs Q.logs HLL.out (HLI.out v5 BV5.out) (HRI.out v5 BV5.out)).mono ?_
  rintro e v6 ⟨rfl, bb1⟩
  rw [show sameR ⟨L.gen, L.logs, L.idx⟩ ⟨Q.gen, Q.logs, Q.idx⟩ = true from HSF.out]
  have BV6 : Hid (Below wl.heap.size wl v6) := Lib.hid (BV5.out.trans (bb1.mono BV5.out.size))
  have q3 := HS2.out v6 BV6.out
  clear bb1
  go_wp2_with fail
  refine hK.out _ _ q3 (fun hHeld => ?_)
  clear hK K
  try simp only [Act.put, List.setIfInBounds_toArray, List.set_cons_zero, List.set_cons_succ]
  refine wpAnyH_take (i := 8) (v := (.bool true)) (by simp only [List.getElem?_toArray, List.getElem?_cons_succ, List.getElem?_cons_zero]; rfl) (by kernel_rfl) (by kernel_rfl) (by kernel_rfl) (fun _ _ _ h => h) (Or.inl ⟨by rfl, ?_⟩) (by assumption) ?_
  · intro w hSw
    try dsimp only at hSw
    go_simp
  try simp only [Act.put, List.setIfInBounds_toArray, List.set_cons_zero, List.set_cons_succ]
  refine wpAnyH_take (i := 9) (v := ?_) (by simp only [List.getElem?_toArray, List.getElem?_cons_succ, List.getElem?_cons_zero]; rfl) (by kernel_rfl) (by kernel_rfl) (by kernel_rfl) (fun _ _ _ h => h) (Or.inl ⟨by rfl, ?_⟩) (by assumption) ?_
  rotate_left
  · intro w hSw
    try dsimp only at hSw
    go_simp
    try with_reducible rfl
  try simp only [Act.put, List.setIfInBounds_toArray, List.set_cons_zero, List.set_cons_succ]
  refine wpAnyH_take (i := 10) (v := ?_) (by simp only [List.getElem?_toArray, List.getElem?_cons_succ, List.getElem?_cons_zero]; rfl) (by kernel_rfl) (by kernel_rfl) (by kernel_rfl) (fun _ _ _ h => h) (Or.inl ⟨by rfl, ?_⟩) (by assumption) ?_
  rotate_left
  · intro w hSw
    try dsimp only at hSw
    go_simp
    try with_reducible rfl
  try simp only [Act.put, List.setIfInBounds_toArray, List.set_cons_zero, List.set_cons_succ]
  refine wpAnyH_take (i := 11) (v := ?_) (by simp only [List.getElem?_toArray, List.getElem?_cons_succ, List.getElem?_cons_zero]; rfl) (by kernel_rfl) (by kernel_rfl) (by kernel_rfl) (fun _ _ _ h => h) (Or.inl ⟨by rfl, ?_⟩) (by assumption) ?_
  rotate_left
  · intro w hSw
    try dsimp only at hSw
    go_simp
    try with_reducible rfl
  try simp only [Act.put, List.setIfInBounds_toArray, List.set_cons_zero, List.set_cons_succ]
  refine wpAnyH_take (i := 12) (v := (.bool true)) (by simp only [List.getElem?_toArray, List.getElem?_cons_succ, List.getElem?_cons_zero]; rfl) (by kernel_rfl) (by kernel_rfl) (by kernel_rfl) (fun _ _ _ h => h) (Or.inl ⟨by rfl, ?_⟩) (by assumption) ?_
  · intro w hSw
    try dsimp only at hSw
    go_simp
  try simp only [Act.put, List.setIfInBounds_toArray, List.set_cons_zero, List.set_cons_succ]
  refine wpAnyH_take (i := 13) (v := (.bool true)) (by simp only [List.getElem?_toArray, List.getElem?_cons_succ, List.getElem?_cons_zero]; rfl) (by kernel_rfl) (by kernel_rfl) (by kernel_rfl) (fun _ _ _ h => h) (Or.inl ⟨by rfl, ?_⟩) (by assumption) ?_
  · intro w hSw
    try dsimp only at hSw
    go_simp
  try simp only [Act.put, List.setIfInBounds_toArray, List.set_cons_zero, List.set_cons_succ]
  refine wpAnyH_take (i := 14) (v := ?_) (by simp only [List.getElem?_toArray, List.getElem?_cons_succ, List.getElem?_cons_zero]; rfl) (by kernel_rfl) (by kernel_rfl) (by kernel_rfl) (fun _ _ _ h => h) (Or.inl ⟨by rfl, ?_⟩) (by assumption) ?_
  rotate_left
  · intro w hSw
    try dsimp only at hSw
    go_simp
    try with_reducible rfl
  try simp only [Act.put, List.setIfInBounds_toArray, List.set_cons_zero, List.set_cons_succ]
  refine wpAnyH_take (i := 15) (v := ?_) (by simp only [List.getElem?_toArray, List.getElem?_cons_succ, List.getElem?_cons_zero]; rfl) (by kernel_rfl) (by kernel_rfl) (by kernel_rfl) (fun _ _ _ h => h) (Or.inl ⟨by rfl, ?_⟩) (by assumption) ?_
  rotate_left
  · intro w hSw
    try dsimp only at hSw
    go_simp
    try with_reducible rfl
  try simp only [Act.put, List.setIfInBounds_toArray, List.set_cons_zero, List.set_cons_succ]
  refine wpAnyH_take (i := 16) (v := ?_) (by simp only [List.getElem?_toArray, List.getElem?_cons_succ, List.getElem?_cons_zero]; rfl) (by kernel_rfl) (by kernel_rfl) (by kernel_rfl) (fun _ _ _ h => h) (Or.inl ⟨by rfl, ?_⟩) (by assumption) ?_
  rotate_left
  · intro w hSw
    try dsimp only at hSw
    go_simp
    try with_reducible rfl
  try simp only [Act.put, List.setIfInBounds_toArray, List.set_cons_zero, List.set_cons_succ]
  refine wpAnyH_take (i := 17) (v := ?_) (by simp only [List.getElem?_toArray, List.getElem?_cons_succ, List.getElem?_cons_zero]; rfl) (by kernel_rfl) (by kernel_rfl) (by kernel_rfl) (fun _ _ _ h => h) (Or.inl ⟨by rfl, ?_⟩) (by assumption) ?_
  rotate_left
  · intro w hSw
    try dsimp only at hSw
    go_simp
    try with_reducible rfl
  try simp only [Act.put, List.setIfInBounds_toArray, List.set_cons_zero, List.set_cons_succ]
  refine wpAnyH_take (i := 18) (v := (.bool true)) (by simp only [List.getElem?_toArray, List.getElem?_cons_succ, List.getElem?_cons_zero]; rfl) (by kernel_rfl) (by kernel_rfl) (by kernel_rfl) (fun _ _ _ h => h) (Or.inl ⟨by rfl, ?_⟩) (by assumption) ?_
  · intro w hSw
    try dsimp only at hSw
    go_simp
  try simp only [Act.put, List.setIfInBounds_toArray, List.set_cons_zero, List.set_cons_succ]
  refine wpAnyH_take (i := 19) (v := (.bool true)) (by simp only [List.getElem?_toArray, List.getElem?_cons_succ, List.getElem?_cons_zero]; rfl) (by kernel_rfl) (by kernel_rfl) (by kernel_rfl) (fun _ _ _ h => h) (Or.inl ⟨by rfl, ?_⟩) (by assumption) ?_
  · intro w hSw
    try dsimp only at hSw
    go_simp
  try simp only [Act.put, List.setIfInBounds_toArray, List.set_cons_zero, List.set_cons_succ]
  refine wpAnyH_take (i := 20) (v := ?_) (by simp only [List.getElem?_toArray, List.getElem?_cons_succ, List.getElem?_cons_zero]; rfl) (by kernel_rfl) (by kernel_rfl) (by kernel_rfl) (fun _ _ _ h => h) (Or.inl ⟨by rfl, ?_⟩) (by assumption) ?_
  rotate_left
  · intro w hSw
    try dsimp only at hSw
    go_simp
    try with_reducible rfl
  try simp only [Act.put, List.setIfInBounds_toArray, List.set_cons_zero, List.set_cons_succ]
  refine wpAnyH_done (by kernel_rfl) ?_ _
  refine NoPanic.normal ?_
  go_wp2_with fail
  go_ret
  exact ⟨rfl, CC.out.bel.trans (BV6.out.mono CC.out.bel.size)⟩
end Go.Proofs.YtfneadlknieppaaGreatDoor
