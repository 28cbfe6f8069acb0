/- RadixOrders returns true and makes new memory alone. Condition: errors.errorType holds what its text lays. -/
import Derived.Test.YtbpccbhlggcmfaaGreatDoorRadRw
import Derived.Test.YtbpccbhlggcmfaaGreatDoorRadKn
namespace Go.Proofs.YtbpccbhlggcmfaaGreatDoor
open Go.RowKit
open Go.Maps
attribute [local go_sem ↓] hld_open heq_open hne_open pld_open

/-- The first pairs, each with the number of its hash. -/
def fxs (E : List Pr) (i : Nat) : List Pr := (E.take i).map Pr.fix
theorem fxs_length {E : List Pr} {i : Nat} (h : i ≤ E.length) : (fxs E i).length = i := by
  unfold fxs
  rw [List.length_map, List.length_take]; omega
theorem fxs_succ {E : List Pr} {i : Nat} (h : i < E.length) : fxs E (i + 1) = fxs E i ++ [E[i].fix] := by
  unfold fxs
  rw [List.take_succ_eq_append_getElem h, List.map_append]; rfl
theorem fxs_good {E : List Pr} (h32 : ∀ x ∈ E, x.h.length = 32) (i : Nat) : ∀ x ∈ fxs E i, x.v = val9 x.hash ∧ x.h.length = 32 := fun x hx => by
  obtain ⟨y, hy, rfl⟩ := List.mem_map.1 hx
  exact ⟨rfl, h32 y (List.mem_of_mem_take hy)⟩
theorem kputs_nodup (l : List Pr) : (keys (kputs [] l)).Nodup := by
  have key : ∀ (l : List Pr) (a : En), (keys a).Nodup → (keys (kputs a l)).Nodup := by
    intro l
    induction l with
    | nil => intro a h; exact h
    | cons x l ih => intro a h; exact ih _ (keys_put_nodup h _ _)
  exact key l [] .nil
theorem kputs_length (l : List Pr) : (kputs [] l).length ≤ l.length := by
  have key : ∀ (l : List Pr) (a : En), (kputs a l).length ≤ a.length + l.length := by
    intro l
    induction l with
    | nil => intro a; exact Nat.le_refl _
    | cons x l ih =>
      intro a
      have h1 := ih (kput a x.hash x.v)
      have h2 := kput_length a x.hash x.v
      show (kputs (kput a x.hash x.v) l).length ≤ _
      rw [List.length_cons]
      omega
  simpa using key l []
theorem index_2 {h : List UInt8} (hh : h.length = 32) (w : World) : (Instr.index 36 (.agg (hv h)) (.int .i64 2)).run Tryz.prog w = .ok (.int .u8 ((h.getD 2 0).toNat : Int)) w := by
  have := index_hash (hv h) (by rw [hv_size, hh]) 2 w (by decide) (by decide)
  rw [show (2 : Int).toNat = 2 from rfl, hv_2 hh] at this
  exact this
theorem cut_fits {j ln : Nat} (jn : Nat) (h1 : j ≤ ln) (h2 : ln ≤ 25) : (0 + j ≤ maxLen ∧ (0 + j) * 56 ≤ 140737488355328) ∧ 0 + j + (ln - jn) ≤ maxLen ∧ (0 + j + (ln - jn)) * 56 ≤ 140737488355328 := by
  unfold maxLen
  omega
theorem cut_len {j jn ln l' : Nat} (h : jn = j + 1) (h2 : jn ≤ ln) (hl : l' = j + (ln - jn)) : l' = ln - 1 := by omega
theorem next_fits {n ln i l' : Nat} (h : n + ln = i) (hi : i ≤ 25) (h0 : 0 < ln) (hl : l' = ln - 1) : n + 1 ≤ 25 ∧ l' ≤ 25 ∧ n + 1 + l' = i := by omega
theorem next_meas {n : Nat} (h : n + 1 ≤ 25) : 25 - ((n : Int) + 1).toNat < 25 - (n : Int).toNat := by omega
theorem ok_saved {a b m l u R R' : Nat} (h1 : a + 65 * l ≤ m) (h2 : m ≤ 1625) (h3 : R + m ≤ 1625) (hu : u ≤ a) (h0 : b = 0) (hR : R' = R + u) : b + 65 * l ≤ m - u ∧ m - u ≤ 1625 ∧ R' + (m - u) ≤ 1625 := by omega
theorem lcell_in {w W : World} {a : Addr} {u : Value} (h : w.cell? a = some u) (hb : Below w.heap.size w W) : W.cell? a = some u := by
  rw [World.cell?_of_block (w := w) (hb.block _ (World.block_lt_of_cell? w _ h))]; exact h
set_option maxRecDepth 20000 in
set_option maxHeartbeats 16000000 in
theorem radixOrders_walk (w : World) (hg : Glob w) (p0 : Option Addr) (c0 : Nat) (E : List Pr) (hE : PrSeen w p0 E) (h32 : ∀ x ∈ E, x.h.length = 32) (v1 : Value) (l1 : List Int) (hl1 : ISeen w v1 l1) (v2 : Value) (l2 : List Bool) (hl2 : TSeen w v2 l2) (v3 : Value) (l3 : List Int) (hl3 : ISeen w v3 l3) :
    Calls Tryz.prog 5 #[.slice p0 E.length c0, v1, v2, v3] w fun e w' => e = .returned (.bool true) ∧ Below w.heap.size w w' := by
  obtain ⟨p1, c1, rfl⟩ : ∃ p c, v1 = .slice p l1.length c := by
    rcases hl1 with ⟨rfl, rfl⟩ | ⟨a, c, rfl, _⟩ <;> exact ⟨_, _, rfl⟩
  obtain ⟨p2, c2, rfl⟩ : ∃ p c, v2 = .slice p l2.length c := by
    rcases hl2 with ⟨rfl, rfl⟩ | ⟨a, c, rfl, _⟩ <;> exact ⟨_, _, rfl⟩
  have HG := Lib.hid hg
  have HE := Lib.hid hE
  have HP32 := Lib.hid h32
  have HL1 := Lib.hid hl1
  have HL2 := Lib.hid hl2
  have HL3 := Lib.hid hl3
  clear hg hE h32 hl1 hl2 hl3
  obtain ⟨i0, hi0, hz0, hz1, hz2⟩ := info_parts pzinfo
  go_enter Tryz.func5, Tryz.ntmps5
  go_wp2_with fail
  refine (new_to9 w).mono ?_
  rintro e w1 ⟨rfl, b1, t1⟩
  have B1 := Lib.hid b1
  have T1 := Lib.hid t1
  clear b1 t1
  go_wp2_with fail
  refine (new_to w1 4194304).mono ?_
  rintro e w2 ⟨d, S1, rfl, h2, b2, g2⟩
  have H2 := Lib.hid h2
  have B2 := Lib.hid b2
  have G2 := Lib.hid g2
  clear h2 b2 g2
  go_wp2_with fail
  refine (open_ok w2 _ d S1 (St.new 4194304) [105] 0 H2.out (by decide) (by decide) (by decide) Okb.nil rfl).mono ?_
  rintro e w3 ⟨l, S3, rfl, h3, o3, s3⟩
  rw [open_new] at h3
  obtain ⟨S4, tl4⟩ := Tl.new T1.out B1.out B2.out h3 o3 G2.out s3
  have L4 := Lib.hid tl4
  have OK4 : Hid (Ok9 (St.new 4194304) [105] [] 1625) := Lib.hid (Ok9.new _ _ _ (by decide) (by decide) (by decide))
  obtain ⟨s4, hs4⟩ : ∃ s, s = St.new 4194304 := ⟨_, rfl⟩
  rw [← hs4] at L4 OK4
  clear h3 o3 s3 tl4 H2 B2 G2 T1 B1 hs4
  obtain ⟨nm, hnm⟩ : ∃ nm : Key, nm = [105] := ⟨_, rfl⟩
  rw [← hnm] at L4 OK4
  clear hnm
  obtain ⟨Bd, hBd⟩ : ∃ b, b = w1.heap.size := ⟨_, rfl⟩
  rw [← hBd] at L4
  clear hBd
  go_wp2_with fail
  refine (known9_to w3 (HG.out.kb L4.out.cl.bel)).mono ?_
  rintro e w5 ⟨rfl, b5⟩
  have L5 := Lib.hid (L4.out.below b5)
  clear b5 L4
  have b6 := (Below.refl w5.heap.size w5).alloc (Nat.le_refl _) (.cells #[.slice none 0 0, .slice none 0 0] 52)
  have I6 : Hid (OrI w (w5.alloc (.cells #[.slice none 0 0, .slice none 0 0] 52)) Bd d l S4 s4 nm [] w.heap.size .none (fun _ => 0) [] w5.heap.size (.slice none 0 0) (.slice none 0 0) [] (.slice none 0 0) []) := Lib.hid
    ⟨⟨L5.out.below b6, ⟨heap_alloc_last w5 _, World.ownsRow_nil _ _ _ _, World.ownsRow_nil _ _ _ _, H32.nil, L5.out.cl.bel.size⟩⟩, World.ownsRow_nil _ _ _ _⟩
  clear b6 L5
  go_upto_block 0 with fail
  generalize w5.alloc (.cells #[.slice none 0 0, .slice none 0 0] 52) = w6 at *
  go_cut [14] from 48 to 77 (fun vl wr => ∃ (i : Nat) (p : Option Addr) (c : Nat) (vh vn : Value), i ≤ E.length ∧ i ≤ 25 ∧ vl = .slice p i c ∧ Hid (OrI w wr Bd d l S4 s4 nm [] w.heap.size .none (fun _ => 0) [] w5.heap.size vh vn (kputs [] (fxs E i)) (.slice p i c) (fxs E i)))
  case first =>
    go_wp2_with fail
    go_loopw [14, 15] (fun vl vi wr => ∃ (i : Nat) (p : Option Addr) (c : Nat) (vh vn : Value), i ≤ E.length ∧ i ≤ 25 ∧ vl = .slice p i c ∧ vi = .int .i64 i ∧ Hid (OrI w wr Bd d l S4 s4 nm [] w.heap.size .none (fun _ => 0) [] w5.heap.size vh vn (kputs [] (fxs E i)) (.slice p i c) (fxs E i))) (fun _ vi _ => 25 - (intOf vi).toNat)
    case atStart => exact ⟨0, _, _, _, _, by omega, by omega, rfl, rfl, I6⟩
    case round =>
      obtain ⟨i, p, c, vh, vn, hi, hi25, rfl, rfl, HI⟩ := hrel
      clear I6
      by_cases hgo : i < E.length ∧ i < 25
      case neg =>
        by_cases h1 : i < E.length
        · have hk' : (i : Int) < E.length := by omega
          have hk'' : ¬ (i : Int) < 25 := by omega
          clear hgo h1
          go_wp2_with fail
          go_meet
          case rel => exact ⟨i, p, c, vh, vn, hi, hi25, rfl, HI⟩
        · have hk' : ¬ (i : Int) < E.length := by omega
          clear hgo h1
          go_wp2_with fail
          go_meet
          case rel => exact ⟨i, p, c, vh, vn, hi, hi25, rfl, HI⟩
      case pos =>
        obtain ⟨hil, hi5⟩ := hgo
        have HX0 := Lib.hid (List.getElem?_eq_getElem hil)
        obtain ⟨b, o, hp0, _⟩ := HE.out i _ HX0.out
        subst hp0
        have HFS := Lib.hid (fxs_succ hil)
        have hR := prseen_at HE.out HI.out.sst.tl.cl.bel (Nat.le_refl _) HX0.out
        have HX32 := Lib.hid (HP32.out E[i] (List.getElem_mem hil))
        generalize E[i] = x at *
        have HQ32 : Hid (x.hash.length = 32) := Lib.hid (Pr.hash_length HX32.out)
        have hdl : (i : Int) < E.length := by omega
        have hd5 : (i : Int) < 25 := by omega
        have hi00 : 0 ≤ (i : Int) := by omega
        have lE := pld_range HX32.out hR
        have pst := pst_cells HX32.out wr
        have hsz : x.row.toArray.size = 35 := pr_size HX32.out
        have b1 := (Below.refl wr.heap.size wr).alloc (Nat.le_refl _) (.cells x.row.toArray 57)
        have BA1 := Lib.hid b1
        have R1 := Lib.hid (heap_alloc_last wr (.cells x.row.toArray 57))
        have ld1 := pld_row HX32.out R1.out
        have HHP := Lib.hid (fun W => hashp_to W x HX32.out)
        have ix := fun W => index_2 HQ32.out W
        obtain ⟨q, hq⟩ : ∃ q, q = x.hash := ⟨_, rfl⟩
        have HV9 : Hid (val9 q = 1 + ((q.getD 2 0).toNat : Int)) := Lib.hid rfl
        rw [← hq] at ix HHP HQ32
        obtain ⟨y, hy⟩ : ∃ y : Int, y = ((q.getD 2 0).toNat : Int) := ⟨_, rfl⟩
        have hyr : 0 ≤ y ∧ y < 256 := by
          have := (q.getD 2 0).toNat_lt
          omega
        rw [← hy] at ix HV9
        obtain ⟨vv, hvv⟩ : ∃ vv : Int, vv = 1 + y := ⟨_, rfl⟩
        have HVV : Hid (vv = val9 q) := Lib.hid (by rw [hvv, HV9.out])
        have hw1 : IntKind.i64.wrap y = y := IntWalk.i64_in _ (by omega)
        have hw1' : wrap64 y = y := IntWalk.wrap64_in _ (by omega)
        have hw2 : IntKind.i64.wrap (1 + y) = vv := by rw [hvv]; exact IntWalk.i64_in _ (by omega)
        have hw2' : wrap64 (1 + y) = vv := by rw [hvv]; exact IntWalk.wrap64_in _ (by omega)
        have HQ := Lib.hid hq
        have HIL := Lib.hid (fxs_length hi)
        clear hR b1 hy hvv hq HV9
        go_upto_region 12 with fail
        clear lE pst
        generalize wr.alloc (.cells x.row.toArray 57) = w1' at *
        go_upto_region 13 with (go_at_call 20; refine (HHP.out _).mono ?_; rintro e w2 ⟨rfl, b2⟩; have B2 := Lib.hid (BA1.out.trans (b2.mono BA1.out.size)); have R2 := Lib.hid ((b2.block wr.heap.size (Array.getElem?_eq_some_iff.1 R1.out).1).trans R1.out); clear b2 ld1; have cc1 := pr_1 R2.out; have cf1 : w2.frozen? ⟨wr.heap.size, 1, none⟩ = false := by simp [World.frozen?, R2.out])
        have B3 : Hid (Below wr.heap.size wr (w2.setCell ⟨wr.heap.size, 1, none⟩ (.int .i64 vv))) := Lib.hid (((Only.of_below (S := fun k => wr.heap.size ≤ k) B2.out).setCell (p := ⟨wr.heap.size, 1, none⟩) (Nat.le_refl _) _).below (Nat.le_refl _) (fun _ h => h))
        have R3 : Hid ((w2.setCell ⟨wr.heap.size, 1, none⟩ (.int .i64 vv)).heap[wr.heap.size]? = some (.cells x.fix.row.toArray 57 (0, 0))) := Lib.hid (by
          have := cells_set (j := 1) R2.out (.int .i64 vv)
          rw [HVV.out, HQ.out] at this ⊢
          exact this)
        generalize w2.setCell ⟨wr.heap.size, 1, none⟩ (.int .i64 vv) = w3' at *
        clear cc1 cf1 hw1 hw1' hw2 hw2' ix
        have HF32 : Hid (x.fix.h.length = 32) := HX32
        have HFV : Hid (x.fix.v = vv) := Lib.hid (by rw [HVV.out, HQ.out]; rfl)
        have HFQ : Hid (x.fix.hash = q) := Lib.hid (by rw [HQ.out]; rfl)
        have ld3 := pld_row HF32.out R3.out
        have HHF := Lib.hid (fun W => hashp_to W x.fix HF32.out)
        rw [HFQ.out] at HHF
        have HIO := Lib.hid (HI.out.below B3.out)
        have OWN : Hid (w3'.ownsRow w.heap.size 57 35 (.slice p i c) i (prs (fxs E i))) := Lib.hid (by have := HIO.out.left; unfold LOwn at this; rwa [HIL.out] at this)
        have HFT : Hid (i + 1 ≤ maxLen ∧ (i + 1) * 56 ≤ 140737488355328) := Lib.hid (by unfold maxLen; omega)
        have HBS : Hid (w.heap.size ≤ w3'.heap.size) := Lib.hid HIO.out.sst.tl.cl.bel.size
        have HRL : Hid (x.fix.row.length = 1 * 35) := Lib.hid (by rw [Pr.row_length HF32.out])
        have hfs : x.fix.row.toArray.size = 35 := pr_size HF32.out
        go_upto_region 14 with (first
          | (refine build_pair HF32.out ?hv ?_; (case hv => simp [Act.eval]))
          | (at_builtin; refine wpList_append_lies _ (by rfl) (.tmp 68) (.tmp 70) _ (by rfl) w.heap.size 57 i0 _ 35 56 Tryz.underlying54 hi0 hz0 hz1 hz2 rfl (by omega) (.slice p i c) i _ (by rfl) (OWN.out.alloc _) ⟨w3'.heap.size, 0, none⟩ 1 1 x.fix.row (by rfl) HRL.out (World.news_of_block (cs := x.fix.row.toArray) (t := 57) (fr := (0, 0)) (heap_alloc_new w3' _)) Pr.row_one (by decide) HFT.out.1 HFT.out.2 (Nat.le_trans HBS.out (by simp)) (w3'.heap.size + 1) (by simp) ?_; intro gg cap5 w5' own5 grow5 at5 lt5; have O5 := Lib.hid own5; have G5 : Hid (Only (fun j => (Value.slice p i c).ownBlock = some j) w3' w5') := Lib.hid (((Only.refl _ w3').alloc _).grown grow5 (fun k _ e => e)); clear own5 grow5 at5 lt5))
        have I5 : Hid (OrI w w5' Bd d l S4 s4 nm [] w.heap.size .none (fun _ => 0) [] w5.heap.size vh vn (kputs [] (fxs E i)) (.slice (some ⟨gg, 0, none⟩) (i + 1) cap5) (fxs E (i + 1))) := Lib.hid (HIO.out.grow G5.out (by
          have h1 := O5.out
          unfold LOwn
          rw [HFS.out, List.length_append, HIL.out, prs_app, prs_one]
          exact h1))
        have R5 : Hid (w5'.heap[wr.heap.size]? = some (.cells x.fix.row.toArray 57 (0, 0))) := Lib.hid ((G5.out.block wr.heap.size (Array.getElem?_eq_some_iff.1 R3.out).1 (fun e => by have := (HI.out.left.lt _ e).2; omega)).trans R3.out)
        clear OWN HFT HBS HRL hfs O5 G5 HIO ld3
        have hq1 := pld_row (w := w5'.drew) HF32.out R5.out
        have hq2 : w5'.drew.cell? ⟨wr.heap.size, 1, none⟩ = some (.int .i64 vv) := by rw [← HFV.out]; exact pr_1 (W := w5'.drew) R5.out
        try simp only [List.append]
        refine wp_region_noPanic ?_
        refine wp_region_held_drew (S := (fun W => (pld ⟨wr.heap.size, 0, none⟩).run Tryz.prog W = .ok (.agg x.fix.row.toArray) W ∧ W.cell? ⟨wr.heap.size, 1, none⟩ = some (.int .i64 vv))) (by kernel_rfl) ⟨hq1, hq2⟩ (fun hHeld => ?_)
        refine wpAnyH_take (i := 0) (v := ?_) (by simp only [List.getElem?_toArray, List.getElem?_cons_zero]; rfl) (by kernel_rfl) (by kernel_rfl) (by kernel_rfl) (fun _ _ _ h => h) (Or.inl ⟨by rfl, ?_⟩) (by assumption) ?_
        rotate_left
        · intro w hSw
          try dsimp only at hSw
          go_simp
          try with_reducible rfl
        try simp only [Act.put, List.setIfInBounds_toArray, List.set_cons_zero, List.set_cons_succ]
        refine wpAnyH_take (i := 1) (v := ?_) (by simp only [List.getElem?_toArray, List.getElem?_cons_succ, List.getElem?_cons_zero]; rfl) (by kernel_rfl) (by kernel_rfl) (by kernel_rfl) (fun _ _ _ h => h) (Or.inl ⟨by rfl, ?_⟩) (by assumption) ?_
        rotate_left
        · intro w hSw
          try dsimp only at hSw
          go_simp
          try with_reducible rfl
        try simp only [Act.put, List.setIfInBounds_toArray, List.set_cons_zero, List.set_cons_succ]
        refine wpAnyH_take (i := 3) (v := ?_) (by simp only [List.getElem?_toArray, List.getElem?_cons_succ, List.getElem?_cons_zero]; rfl) (by kernel_rfl) (by kernel_rfl) (by kernel_rfl) (fun _ _ _ h => h) (Or.inl ⟨by rfl, ?_⟩) (by assumption) ?_
        rotate_left
        · intro w hSw
          try dsimp only at hSw
          go_simp
          try with_reducible rfl
        try simp only [Act.put, List.setIfInBounds_toArray, List.set_cons_zero, List.set_cons_succ]
        refine wpAnyH_take (i := 4) (v := ?_) (by simp only [List.getElem?_toArray, List.getElem?_cons_succ, List.getElem?_cons_zero]; rfl) (by kernel_rfl) (by kernel_rfl) (by kernel_rfl) (fun _ _ _ h => h) (Or.inl ⟨by rfl, ?_⟩) (by assumption) ?_
        rotate_left
        · intro w hSw
          try dsimp only at hSw
          go_simp
          try with_reducible rfl
        try simp only [Act.put, List.setIfInBounds_toArray, List.set_cons_zero, List.set_cons_succ]
        clear hq1 hq2
        refine wpAnyH_ready (rs := [2]) (by kernel_rfl) (by simp) ?_
        refine AllReadyH.cons (by simp only [List.getElem?_toArray, List.getElem?_cons_succ, List.getElem?_cons_zero]; rfl) (fun K hK => ?_) AllReadyH.nil
        go_simp
        refine (HHF.out _).mono ?_
        rintro e w6' ⟨rfl, b6⟩
        have B6 : Hid (Below w5'.heap.size w5' w6') := Lib.hid (below_drn0 (m := 1) b6)
        have R6 := Lib.hid ((B6.out.block _ (Array.getElem?_eq_some_iff.1 R5.out).1).trans R5.out)
        have I6 := Lib.hid (I5.out.below B6.out)
        have hq1 := pld_row (w := w6') HF32.out R6.out
        have hq2 : w6'.cell? ⟨wr.heap.size, 1, none⟩ = some (.int .i64 vv) := by rw [← HFV.out]; exact pr_1 R6.out
        clear b6
        go_wp2_with fail
        refine hK.out _ _ ⟨hq1, hq2⟩ (fun hHeld => ?_)
        clear hK K
        try simp only [Act.put, List.setIfInBounds_toArray, List.set_cons_zero, List.set_cons_succ]
        clear hq1 hq2
        have HKP := Lib.hid (kput_to w6' w.heap.size w5.heap.size (kputs [] (fxs E i)) q vv vh vn I6.out.sst.kx HQ32.out I6.out.sst.tl.cl.bel.size (Nat.le_trans (kputs_length _) (by rw [HIL.out]; omega)))
        refine wpAnyH_ready (rs := [5]) (by kernel_rfl) (by simp) ?_
        refine AllReadyH.cons (by simp only [List.getElem?_toArray, List.getElem?_cons_succ, List.getElem?_cons_zero]; rfl) (fun K hK => ?_) AllReadyH.nil
        go_simp
        refine HKP.out.mono ?_
        rintro e w7' ⟨rfl, h7⟩
        have R7 : Hid (w7'.heap[wr.heap.size]? = some (.cells x.fix.row.toArray 57 (0, 0))) := Lib.hid ((h7.2.2.block _ (Array.getElem?_eq_some_iff.1 R6.out).1 (fun e => I6.out.sst.kx.no R6.out (by decide) (by decide) (by decide) e)).trans R6.out)
        obtain ⟨vh7, vn7, c7⟩ := I6.out.kput h7
        have I7 := Lib.hid c7
        have hq1 := pld_row (w := w7') HF32.out R7.out
        have hq2 : w7'.cell? ⟨wr.heap.size, 1, none⟩ = some (.int .i64 vv) := by rw [← HFV.out]; exact pr_1 R7.out
        clear h7 c7
        go_wp2_with fail
        refine hK.out _ _ ⟨hq1, hq2⟩ (fun hHeld => ?_)
        clear hK K
        try simp only [Act.put, List.setIfInBounds_toArray, List.set_cons_zero, List.set_cons_succ]
        clear hq1 hq2
        refine wpAnyH_done (by kernel_rfl) ?_ _
        refine NoPanic.normal ?_
        go_wp2_with fail
        have HKE : Hid (kputs [] (fxs E (i + 1)) = kput (kputs [] (fxs E i)) q vv) := Lib.hid (by rw [HFS.out, kputs_snoc, HFQ.out, HFV.out])
        refine ⟨⟨i + 1, some ⟨gg, 0, none⟩, cap5, vh7, vn7, by omega, by omega, rfl, by go_num, Lib.hid (by rw [HKE.out]; exact I7.out)⟩, by simp [intOf]; omega⟩
  case rest =>
    obtain ⟨i, p, c, vh, vn, hi, hi25, rfl, HI⟩ := hcut
    clear I6
    have HLF : Hid (LeftI [] (kputs [] (fxs E i)) (fxs E i)) := Lib.hid (LeftI.start (fxs_good HP32.out i))
    have HND : Hid ((keys (kputs [] (fxs E i))).Nodup) := Lib.hid (kputs_nodup _)
    have HLN : Hid ((fxs E i).length = i) := Lib.hid (fxs_length hi)
    have HKL : Hid ((kputs [] (fxs E i)).length ≤ 25) := Lib.hid (Nat.le_trans (kputs_length _) (by rw [HLN.out]; exact hi25))
    generalize kputs [] (fxs E i) = k2 at *
    generalize fxs E i = L0 at *
    clear hi HE HP32
    have OKN : Hid (Ok9 s4 nm [] 1625 ∧ Nd.none.nun (fun _ => 0) + 65 * i ≤ 1625 ∧ 1625 ≤ 1625 ∧ ([] : List Rc).length + 1625 ≤ 1625) := Lib.hid ⟨OK4.out, by show 0 + 65 * i ≤ 1625; omega, Nat.le_refl _, Nat.le_refl _⟩
    clear OK4
    go_wp2_with fail
    go_loopw [14, 17] (fun vl vi wr => ∃ (L : List Pr) (n ln : Nat) (p : Option Addr) (c : Nat) (T : Nd) (ρ : Nat → Nat) (k : En) (S : Nat → Prop) (s : St) (R : List Rc) (m : Nat), n ≤ 25 ∧ ln ≤ 25 ∧ vl = .slice p ln c ∧ vi = .int .i64 n ∧ Hid (n + ln = i) ∧ Hid (L.length = ln) ∧ Hid (OrI w wr Bd d l S s nm R w.heap.size T ρ k w5.heap.size vh vn k2 (.slice p ln c) L) ∧ Hid (LeftI k k2 L) ∧ Hid (k.length ≤ n) ∧ Hid (Ok9 s nm R m ∧ T.nun ρ + 65 * ln ≤ m ∧ m ≤ 1625 ∧ R.length + m ≤ 1625)) (fun _ vi _ => 25 - (intOf vi).toNat)
    case atStart => exact ⟨L0, 0, i, p, c, _, _, _, S4, s4, [], 1625, by omega, hi25, rfl, rfl, Lib.hid (by omega), HLN, HI, HLF, Lib.hid (Nat.le_refl _), OKN⟩
    case round =>
      clear HLN HI HLF OKN
      obtain ⟨L, n, ln, p, c, T, ρ, k, S, s, R, m, hn, hln, rfl, rfl, HNL, HLN, HI, HLF, HKN, HOK⟩ := hrel
      by_cases hgo : 0 < ln
      case pos =>
        have hg1 : (0 : Int) < ln := by omega
        have hg2 : (ln : Int) > 0 := by omega
        have hn0 : 0 ≤ (n : Int) := by omega
        go_upto_if 86 with fail
        go_cut [18] from 86 to 93 (fun vj wx => wx = wr ∧ ∃ j : Nat, j < ln ∧ vj = .int .i64 j)
        case first =>
          by_cases h1 : n < l1.length
          · have hk : (n : Int) < l1.length := by omega
            obtain ⟨a, hp1, hce⟩ := iseen_at HL1.out h1
            subst hp1
            have hc : wr.cell? (a.add n) = some (.int .i64 l1[n]) := lcell_in hce HI.out.sst.tl.cl.bel
            generalize l1[n] = x at *
            obtain ⟨r, hr⟩ : ∃ r, r = x % (ln : Int) := ⟨_, rfl⟩
            have h3 : 0 ≤ r := by rw [hr]; exact Int.emod_nonneg _ (by omega)
            have h4 : r < ln := by rw [hr]; exact Int.emod_lt_of_pos _ hg1
            have HPK := Lib.hid (pick_to wr x ln r hg1 (by omega) hr.symm)
            obtain ⟨rn, hrn⟩ : ∃ rn : Nat, r = rn := ⟨r.toNat, by omega⟩
            subst hrn
            have HRN : Hid (rn < ln) := Lib.hid (by omega)
            clear hr h3 h4 hce h1
            go_wp2_with (go_at_call 19; refine HPK.out.mono ?_; rintro e w' ⟨rfl, rfl⟩)
            go_meet
            case rel => exact ⟨rfl, rn, HRN.out, rfl⟩
          · have hk : ¬ (n : Int) < l1.length := by omega
            clear h1
            go_wp2_with fail
            go_meet
            case rel => exact ⟨rfl, 0, hgo, rfl⟩
        case rest =>
          obtain ⟨hwc, j, hj, rfl⟩ := hcut
          subst hwc
          obtain ⟨g, hp, hlc, hcm, hgl⟩ := lown_form HI.out.left HLN.out hgo
          subst hp
          have HGB := Lib.hid (And.intro hlc (And.intro hcm hgl))
          have HJL : Hid (j < L.length) := Lib.hid (by rw [HLN.out]; exact hj)
          have HSTEP := Lib.hid (HLF.out.step HJL.out)
          have HGY := Lib.hid (HLF.out.good L[j] (List.getElem_mem HJL.out))
          have H32L : Hid (∀ x ∈ L, x.h.length = 32) := Lib.hid fun x hx => (HLF.out.good x hx).2
          have HRA := Lib.hid (fun W (h : LOwn W w.heap.size (.slice (some ⟨g, 0, none⟩) ln c) L) => h.at H32L.out HJL.out)
          generalize L[j] = y at *
          have HMM : Hid (0 ≤ y.v ∧ y.v ≤ 1000000) := Lib.hid (by rw [HGY.out.1]; exact val9_small _)
          have HHY := Lib.hid (fun W => hashp_to W y HGY.out.2)
          have HQ32 : Hid (y.hash.length = 32) := Lib.hid (Pr.hash_length HGY.out.2)
          obtain ⟨q, hq⟩ : ∃ q, q = y.hash := ⟨_, rfl⟩
          rw [← hq] at HHY HQ32 HSTEP
          clear hq
          have hjl : (j : Int) < ln := by omega
          have hj0 : 0 ≤ (j : Int) := by omega
          have hq1 : (pld ⟨g, j * 35, none⟩).run Tryz.prog wc.drew = .ok (.agg y.row.toArray) wc.drew := pld_range HGY.out.2 (HRA.out wc HI.out.left)
          have hq2 : wc.drew.cell? ⟨g, j * 35 + 1, none⟩ = some (.int .i64 y.v) := HRA.out wc HI.out.left 1 _ rfl
          have HKB : Hid (k.length ≤ 1000000) := Lib.hid (Nat.le_trans HKN.out (by omega))
          go_upto_region 21 with fail
          try simp only [List.append]
          refine wp_region_noPanic ?_
          refine wp_region_held_drew (S := (fun W => (pld ⟨g, j * 35, none⟩).run Tryz.prog W = .ok (.agg y.row.toArray) W ∧ W.cell? ⟨g, j * 35 + 1, none⟩ = some (.int .i64 y.v))) (by kernel_rfl) ⟨hq1, hq2⟩ (fun hHeld => ?_)
          refine wpAnyH_take (i := 0) (v := ?_) (by simp only [List.getElem?_toArray, List.getElem?_cons_zero]; rfl) (by kernel_rfl) (by kernel_rfl) (by kernel_rfl) (fun _ _ _ h => h) (Or.inl ⟨by rfl, ?_⟩) (by assumption) ?_
          rotate_left
          · intro w hSw
            try dsimp only at hSw
            go_simp
            try with_reducible rfl
          try simp only [Act.put, List.setIfInBounds_toArray, List.set_cons_zero, List.set_cons_succ]
          refine wpAnyH_take (i := 1) (v := ?_) (by simp only [List.getElem?_toArray, List.getElem?_cons_succ, List.getElem?_cons_zero]; rfl) (by kernel_rfl) (by kernel_rfl) (by kernel_rfl) (fun _ _ _ h => h) (Or.inl ⟨by rfl, ?_⟩) (by assumption) ?_
          rotate_left
          · intro w hSw
            try dsimp only at hSw
            go_simp
            try with_reducible rfl
          try simp only [Act.put, List.setIfInBounds_toArray, List.set_cons_zero, List.set_cons_succ]
          refine wpAnyH_take (i := 2) (v := ?_) (by simp only [List.getElem?_toArray, List.getElem?_cons_succ, List.getElem?_cons_zero]; rfl) (by kernel_rfl) (by kernel_rfl) (by kernel_rfl) (fun _ _ _ h => h) (Or.inl ⟨by rfl, ?_⟩) (by assumption) ?_
          rotate_left
          · intro w hSw
            try dsimp only at hSw
            go_simp
            try with_reducible rfl
          try simp only [Act.put, List.setIfInBounds_toArray, List.set_cons_zero, List.set_cons_succ]
          refine wpAnyH_take (i := 3) (v := ?_) (by simp only [List.getElem?_toArray, List.getElem?_cons_succ, List.getElem?_cons_zero]; rfl) (by kernel_rfl) (by kernel_rfl) (by kernel_rfl) (fun _ _ _ h => h) (Or.inl ⟨by rfl, ?_⟩) (by assumption) ?_
          rotate_left
          · intro w hSw
            try dsimp only at hSw
            go_simp
            try with_reducible rfl
          try simp only [Act.put, List.setIfInBounds_toArray, List.set_cons_zero, List.set_cons_succ]
          refine wpAnyH_take (i := 4) (v := ?_) (by simp only [List.getElem?_toArray, List.getElem?_cons_succ, List.getElem?_cons_zero]; rfl) (by kernel_rfl) (by kernel_rfl) (by kernel_rfl) (fun _ _ _ h => h) (Or.inl ⟨by rfl, ?_⟩) (by assumption) ?_
          rotate_left
          · intro w hSw
            try dsimp only at hSw
            go_simp
            try with_reducible rfl
          try simp only [Act.put, List.setIfInBounds_toArray, List.set_cons_zero, List.set_cons_succ]
          refine wpAnyH_take (i := 6) (v := ?_) (by simp only [List.getElem?_toArray, List.getElem?_cons_succ, List.getElem?_cons_zero]; rfl) (by kernel_rfl) (by kernel_rfl) (by kernel_rfl) (fun _ _ _ h => h) (Or.inl ⟨by rfl, ?_⟩) (by assumption) ?_
          rotate_left
          · intro w hSw
            try dsimp only at hSw
            go_simp
            try with_reducible rfl
          try simp only [Act.put, List.setIfInBounds_toArray, List.set_cons_zero, List.set_cons_succ]
          refine wpAnyH_take (i := 7) (v := ?_) (by simp only [List.getElem?_toArray, List.getElem?_cons_succ, List.getElem?_cons_zero]; rfl) (by kernel_rfl) (by kernel_rfl) (by kernel_rfl) (fun _ _ _ h => h) (Or.inl ⟨by rfl, ?_⟩) (by assumption) ?_
          rotate_left
          · intro w hSw
            try dsimp only at hSw
            go_simp
            try with_reducible rfl
          try simp only [Act.put, List.setIfInBounds_toArray, List.set_cons_zero, List.set_cons_succ]
          refine wpAnyH_take (i := 8) (v := ?_) (by simp only [List.getElem?_toArray, List.getElem?_cons_succ, List.getElem?_cons_zero]; rfl) (by kernel_rfl) (by kernel_rfl) (by kernel_rfl) (fun _ _ _ h => h) (Or.inl ⟨by rfl, ?_⟩) (by assumption) ?_
          rotate_left
          · intro w hSw
            try dsimp only at hSw
            go_simp
            try with_reducible rfl
          try simp only [Act.put, List.setIfInBounds_toArray, List.set_cons_zero, List.set_cons_succ]
          refine wpAnyH_take (i := 9) (v := ?_) (by simp only [List.getElem?_toArray, List.getElem?_cons_succ, List.getElem?_cons_zero]; rfl) (by kernel_rfl) (by kernel_rfl) (by kernel_rfl) (fun _ _ _ h => h) (Or.inl ⟨by rfl, ?_⟩) (by assumption) ?_
          rotate_left
          · intro w hSw
            try dsimp only at hSw
            go_simp
            try with_reducible rfl
          try simp only [Act.put, List.setIfInBounds_toArray, List.set_cons_zero, List.set_cons_succ]
          refine wpAnyH_take (i := 10) (v := ?_) (by simp only [List.getElem?_toArray, List.getElem?_cons_succ, List.getElem?_cons_zero]; rfl) (by kernel_rfl) (by kernel_rfl) (by kernel_rfl) (fun _ _ _ h => h) (Or.inl ⟨by rfl, ?_⟩) (by assumption) ?_
          rotate_left
          · intro w hSw
            try dsimp only at hSw
            go_simp
            try with_reducible rfl
          try simp only [Act.put, List.setIfInBounds_toArray, List.set_cons_zero, List.set_cons_succ]
          clear hq1 hq2
          refine wpAnyH_ready (rs := [5]) (by kernel_rfl) (by simp) ?_
          refine AllReadyH.cons (by simp only [List.getElem?_toArray, List.getElem?_cons_succ, List.getElem?_cons_zero]; rfl) (fun K hK => ?_) AllReadyH.nil
          go_simp
          refine (HHY.out _).mono ?_
          rintro e w2' ⟨rfl, b2⟩
          have I2 := Lib.hid (HI.out.below (below_drn0 (m := 1) b2))
          have hq1 := pld_range (w := w2') HGY.out.2 (HRA.out w2' I2.out.left)
          have hq2 : w2'.cell? ⟨g, j * 35 + 1, none⟩ = some (.int .i64 y.v) := HRA.out w2' I2.out.left 1 _ rfl
          clear b2
          go_wp2_with fail
          refine hK.out _ _ ⟨hq1, hq2⟩ (fun hHeld => ?_)
          clear hK K
          try simp only [Act.put, List.setIfInBounds_toArray, List.set_cons_zero, List.set_cons_succ]
          clear hq1 hq2
          refine wpAnyH_ready (rs := [11]) (by kernel_rfl) (by simp) ?_
          refine AllReadyH.cons (by simp only [List.getElem?_toArray, List.getElem?_cons_succ, List.getElem?_cons_zero]; rfl) (fun K hK => ?_) AllReadyH.nil
          go_simp
          refine (tput_to w2' w.heap.size T ρ q y.v HQ32.out HMM.out I2.out.sst.tl.ct.tt (I2.out.sst.tl.ct.big HKB.out)).mono ?_
          rintro e w3' ⟨rfl, p3⟩
          obtain ⟨T3, σ3, c3, ps3⟩ := I2.out.put HQ32.out p3
          have I3 := Lib.hid c3
          have HN3 : Hid (T3.nun σ3 ≤ T.nun ρ + 65) := Lib.hid ps3.nun
          have hq1 := pld_range (w := w3') HGY.out.2 (HRA.out w3' I3.out.left)
          have hq2 : w3'.cell? ⟨g, j * 35 + 1, none⟩ = some (.int .i64 y.v) := HRA.out w3' I3.out.left 1 _ rfl
          clear p3 c3 ps3
          go_wp2_with fail
          refine hK.out _ _ ⟨hq1, hq2⟩ (fun hHeld => ?_)
          clear hK K
          try simp only [Act.put, List.setIfInBounds_toArray, List.set_cons_zero, List.set_cons_succ]
          clear hq1 hq2
          refine wpAnyH_take (i := 12) (v := ?_) (by simp only [List.getElem?_toArray, List.getElem?_cons_succ, List.getElem?_cons_zero]; rfl) (by kernel_rfl) (by kernel_rfl) (by kernel_rfl) (fun _ _ _ h => h) (Or.inl ⟨by rfl, ?_⟩) (by assumption) ?_
          rotate_left
          · intro w hSw
            try dsimp only at hSw
            go_simp
            try with_reducible rfl
          try simp only [Act.put, List.setIfInBounds_toArray, List.set_cons_zero, List.set_cons_succ]
          refine wpAnyH_done (by kernel_rfl) ?_ _
          refine NoPanic.normal ?_
          have HOK3 : Hid (Ok9 s nm R m ∧ T3.nun σ3 + 65 * (ln - 1) ≤ m ∧ m ≤ 1625 ∧ R.length + m ≤ 1625) := Lib.hid ⟨HOK.out.1, by have h1 := HOK.out.2.1; have h2 := HN3.out; omega, HOK.out.2.2⟩
          have HK3 : Hid ((kput k q y.v).length ≤ n + 1) := Lib.hid (Nat.le_trans (kput_length k q y.v) (Nat.succ_le_succ HKN.out))
          clear I2 HI HOK HN3 HKN HKB
          go_upto_region 23 with fail
          obtain ⟨jn, hjn⟩ : ∃ jn : Nat, jn = j + 1 := ⟨_, rfl⟩
          have HJN := Lib.hid hjn
          have hw1 : IntKind.i64.wrap ((j : Int) + 1) = jn := by rw [hjn]; exact IntWalk.i64_in _ (by omega)
          have hw1' : wrap64 ((j : Int) + 1) = jn := by rw [hjn]; exact IntWalk.wrap64_in _ (by omega)
          have hja : j ≤ c := Nat.le_trans (Nat.le_of_lt hj) hlc
          have hjb : jn ≤ ln := by rw [hjn]; exact hj
          obtain ⟨ad, hif⟩ : ∃ ad : Addr, (if c = jn then (some ⟨g, 0, none⟩ : Option Addr) else some ⟨g, jn * 35, none⟩) = some ad := by
            by_cases e : c = jn
            · exact ⟨_, if_pos e⟩
            · exact ⟨_, if_neg e⟩
          have HAD : Hid (ln - jn = 0 ∨ ad = ⟨g, jn * 35, none⟩) := Lib.hid (by
            by_cases e : c = jn
            · exact .inl (Nat.sub_eq_zero_of_le (Nat.le_trans hlc (Nat.le_of_eq e)))
            · rw [if_neg e] at hif
              exact .inr (Option.some.inj hif).symm)
          have HJB := Lib.hid hjb
          have HJA := Lib.hid (Nat.le_of_lt hj)
          have HFT := Lib.hid (cut_fits jn (Nat.le_of_lt hj) hln)
          have HPL : Hid ((prs L).length = ln * 35) := Lib.hid (by rw [prs_length H32L.out, HLN.out])
          have hpl := HPL.out
          clear hjn
          try simp only [List.append]
          refine wp_region_noPanic ?_
          refine wp_region_any_drew (by kernel_rfl) ?_
          refine wpAny_take (i := 1) (v := ?_) (by simp only [List.getElem?_toArray, List.getElem?_cons_succ, List.getElem?_cons_zero]; rfl) (by kernel_rfl) (by kernel_rfl) (by kernel_rfl) (fun _ _ _ h => h) (Or.inl ⟨by rfl, ?_⟩) ?_
          rotate_left
          · intro w
            go_simp
            try with_reducible rfl
          try simp only [Act.put, List.setIfInBounds_toArray, List.set_cons_zero, List.set_cons_succ]
          refine wpAny_take (i := 2) (v := ?_) (by simp only [List.getElem?_toArray, List.getElem?_cons_succ, List.getElem?_cons_zero]; rfl) (by kernel_rfl) (by kernel_rfl) (by kernel_rfl) (fun _ _ _ h => h) (Or.inl ⟨by rfl, ?_⟩) ?_
          rotate_left
          · intro w
            go_simp
            try with_reducible rfl
          try simp only [Act.put, List.setIfInBounds_toArray, List.set_cons_zero, List.set_cons_succ]
          refine wpAny_take (i := 3) (v := ?_) (by simp only [List.getElem?_toArray, List.getElem?_cons_succ, List.getElem?_cons_zero]; rfl) (by kernel_rfl) (by kernel_rfl) (by kernel_rfl) (fun _ _ _ h => h) (Or.inl ⟨by rfl, ?_⟩) ?_
          rotate_left
          · intro w
            go_simp
            try with_reducible rfl
          try simp only [Act.put, List.setIfInBounds_toArray, List.set_cons_zero, List.set_cons_succ]
          refine wpAny_take (i := 5) (v := ?_) (by simp only [List.getElem?_toArray, List.getElem?_cons_succ, List.getElem?_cons_zero]; rfl) (by kernel_rfl) (by kernel_rfl) (by kernel_rfl) (fun _ _ _ h => h) (Or.inl ⟨by rfl, ?_⟩) ?_
          rotate_left
          · intro w
            go_simp
            try with_reducible rfl
          try simp only [Act.put, List.setIfInBounds_toArray, List.set_cons_zero, List.set_cons_succ]
          refine wpAny_take (i := 6) (v := ?_) (by simp only [List.getElem?_toArray, List.getElem?_cons_succ, List.getElem?_cons_zero]; rfl) (by kernel_rfl) (by kernel_rfl) (by kernel_rfl) (fun _ _ _ h => h) (Or.inl ⟨by rfl, ?_⟩) ?_
          rotate_left
          · intro w
            go_simp
            try with_reducible rfl
          try simp only [Act.put, List.setIfInBounds_toArray, List.set_cons_zero, List.set_cons_succ]
          refine wpAny_take (i := 7) (v := ?_) (by simp only [List.getElem?_toArray, List.getElem?_cons_succ, List.getElem?_cons_zero]; rfl) (by kernel_rfl) (by kernel_rfl) (by kernel_rfl) (fun _ _ _ h => h) (Or.inl ⟨by rfl, ?_⟩) ?_
          rotate_left
          · intro w
            go_simp
            try with_reducible rfl
          try simp only [Act.put, List.setIfInBounds_toArray, List.set_cons_zero, List.set_cons_succ]
          refine wpAny_take (i := 8) (v := ?_) (by simp only [List.getElem?_toArray, List.getElem?_cons_succ, List.getElem?_cons_zero]; rfl) (by kernel_rfl) (by kernel_rfl) (by kernel_rfl) (fun _ _ _ h => h) (Or.inl ⟨by rfl, ?_⟩) ?_
          rotate_left
          · intro w
            go_simp
            try with_reducible rfl
          try simp only [Act.put, List.setIfInBounds_toArray, List.set_cons_zero, List.set_cons_succ]
          refine wpAny_ready (rs := [0]) (by kernel_rfl) (by simp) ?_
          refine (AllReady.cons (by simp only [List.getElem?_toArray, List.getElem?_cons_zero]; rfl) (fun K hK => ?_) AllReady.nil)
          have HK := Lib.hid hK
          clear hK
          refine step_build_empty (e := 57) (by rfl) (by rfl) Tryz.underlying54 hi0 ?_
          have OE := Lib.hid (own_empty w3'.drew 57 35 (B := w3'.heap.size) (Nat.le_refl _))
          have BE : Hid (Below w3'.heap.size w3' (w3'.drew.alloc (.cells #[] 57))) := Lib.hid ((below_drn (m := 1) (Below.refl _ w3')).alloc (Nat.le_refl _) _)
          have CE : Hid (LOwn (w3'.drew.alloc (.cells #[] 57)) w.heap.size (.slice (some ⟨g, 0, none⟩) ln c) L) := Lib.hid (lown_kb I3.out.left BE.out)
          obtain ⟨ze, hze⟩ : ∃ z, z = w3'.drew.heap.size := ⟨_, rfl⟩
          rw [← hze] at OE ⊢
          clear hze
          generalize w3'.drew.alloc (.cells #[] 57) = w4' at *
          refine HK.out _ _ ?_
          clear HK K
          try simp only [Act.put, List.setIfInBounds_toArray, List.set_cons_zero, List.set_cons_succ]
          refine wpAny_ready (rs := [4]) (by kernel_rfl) (by simp) ?_
          refine (AllReady.cons (by simp only [List.getElem?_toArray, List.getElem?_cons_succ, List.getElem?_cons_zero]; rfl) (fun K hK => ?_) AllReady.nil)
          have HK := Lib.hid hK
          clear hK
          refine step_append_row (by rfl) (.tmp 107) (.tmp 110) (by rfl) Tryz.underlying54 hi0 hz0 hz1 hz2 rfl (by decide) w3'.heap.size (.slice (some ⟨ze, 0, none⟩) 0 0) 0 [] (by simp) (by rfl) OE.out (.slice (some ⟨g, 0, none⟩) j c) j ((prs L).take (j * 35)) (by rfl) (.inr ⟨_, _, rfl, fun i u hu => ?cells⟩) ?len (fun u hu => prs_cell L u (List.mem_of_mem_take hu)) ?f1 ?f2 BE.out.size ?_
          case cells =>
            rw [Addr.add_lit, Nat.zero_add]
            have h1 := CE.out.cells (g := g) rfl i u (by
              rw [List.getElem?_take] at hu
              split at hu
              · exact hu
              · cases hu)
            rwa [Addr.add_lit, Nat.zero_add] at h1
          case len => rw [List.length_take, HPL.out]; exact Nat.min_eq_left (Nat.mul_le_mul_right 35 HJA.out)
          case f1 => exact HFT.out.1.1
          case f2 => exact HFT.out.1.2
          intro g4 cap4 w5' own4 grow4 at4
          have O4 := Lib.hid own4
          have B4 : Hid (Below w3'.heap.size w3' w5') := Lib.hid (BE.out.grown grow4 BE.out.size (fun k hk => (OE.out.lt k hk).1))
          have C4 : Hid (LOwn w5' w.heap.size (.slice (some ⟨g, 0, none⟩) ln c) L) := Lib.hid (lown_kb I3.out.left B4.out)
          clear own4 grow4 at4
          refine HK.out _ _ ?_
          clear HK K
          try simp only [Act.put, List.setIfInBounds_toArray, List.set_cons_zero, List.set_cons_succ]
          refine wpAny_ready (rs := [9]) (by kernel_rfl) (by simp) ?_
          refine (AllReady.cons (by simp only [List.getElem?_toArray, List.getElem?_cons_succ, List.getElem?_cons_zero]; rfl) (fun K hK => ?_) AllReady.nil)
          have HK := Lib.hid hK
          clear hK
          refine step_append_row (by rfl) (.tmp 111) (.tmp 115) (by rfl) Tryz.underlying54 hi0 hz0 hz1 hz2 rfl (by decide) w3'.heap.size (.slice (some ⟨g4, 0, none⟩) (0 + j) cap4) (0 + j) _ (by simp) (by rfl) O4.out (.slice (some ad) (ln - jn) (c - jn)) (ln - jn) ((prs L).drop (jn * 35)) (by rfl) (.inr ⟨_, _, rfl, fun i u hu => ?cells⟩) ?len (fun u hu => prs_cell L u (List.mem_of_mem_drop hu)) ?f1 ?f2 B4.out.size ?_
          case cells =>
            rcases HAD.out with e | e
            · rw [List.drop_of_length_le (by rw [HPL.out]; exact Nat.mul_le_mul_right 35 (Nat.le_of_sub_eq_zero e))] at hu
              simp at hu
            · rw [e, Addr.add_lit]
              have h1 := C4.out.cells (g := g) rfl (jn * 35 + i) u (by rwa [List.getElem?_drop] at hu)
              rwa [Addr.add_lit, Nat.zero_add] at h1
          case len => rw [List.length_drop, HPL.out, ← Nat.sub_mul]
          case f1 => exact HFT.out.2.1
          case f2 => exact HFT.out.2.2
          intro g9 cap9 w6' own9 grow9 at9
          have O9 := Lib.hid own9
          have B9 : Hid (Below w3'.heap.size w3' w6') := Lib.hid (B4.out.grown grow9 B4.out.size (fun k hk => (O4.out.lt k hk).1))
          clear own9 grow9 at9
          refine HK.out _ _ ?_
          clear HK K
          try simp only [Act.put, List.setIfInBounds_toArray, List.set_cons_zero, List.set_cons_succ]
          refine wpAny_take (i := 10) (v := ?_) (by simp only [List.getElem?_toArray, List.getElem?_cons_succ, List.getElem?_cons_zero]; rfl) (by kernel_rfl) (by kernel_rfl) (by kernel_rfl) (fun _ _ _ h => h) (Or.inl ⟨by rfl, ?_⟩) ?_
          rotate_left
          · intro w
            go_simp
            try with_reducible rfl
          try simp only [Act.put, List.setIfInBounds_toArray, List.set_cons_zero, List.set_cons_succ]
          refine wpAny_done (by kernel_rfl) ?_ _
          refine NoPanic.normal ?_
          rw [Nat.zero_add] at O9 ⊢
          obtain ⟨l', hl'⟩ : ∃ l', l' = j + (ln - jn) := ⟨_, rfl⟩
          rw [← hl'] at O9 ⊢
          have HL' : Hid (l' = ln - 1) := Lib.hid (cut_len HJN.out HJB.out hl')
          have HLL : Hid ((L.take j ++ L.drop jn).length = l') := Lib.hid (by rw [hl', List.length_append, List.length_take, List.length_drop, HLN.out, Nat.min_eq_left HJA.out])
          have I9 : Hid (OrI w w6' Bd d l S s nm R w.heap.size T3 σ3 (kput k q y.v) w5.heap.size vh vn k2 (.slice (some ⟨g9, 0, none⟩) l' cap9) (L.take j ++ L.drop jn)) := Lib.hid ⟨(I3.out.below B9.out).sst, by
            unfold LOwn
            rw [HLL.out, prs_app, prs_take H32L.out, prs_drop H32L.out (by rw [HLN.out]; exact HJB.out)]
            exact O9.out.mono I3.out.sst.tl.cl.bel.size⟩
          rw [← HJN.out] at HSTEP
          clear hl' O9 B9 I3 C4 B4 O4 CE BE OE hif hja hjb hpl HAD hw1 hw1' HFT HPL HJA HJB HRA HHY HGY
          generalize L.take j ++ L.drop jn = L' at *
          generalize kput k q y.v = k' at *
          have HNF := Lib.hid (next_fits HNL.out hi25 hgo HL'.out)
          have HOK4 : Hid (Ok9 s nm R m ∧ T3.nun σ3 + 65 * l' ≤ m ∧ m ≤ 1625 ∧ R.length + m ≤ 1625) := Lib.hid (by rw [HL'.out]; exact HOK3.out)
          clear HOK3
          as_aux_lemma =>
          by_cases hs : n < l2.length
          · obtain ⟨a2, hp2, hc2⟩ := tseen_at HL2.out hs
            subst hp2
            have hcs := lcell_in hc2 I9.out.sst.tl.cl.bel
            have hk : (n : Int) < l2.length := by omega
            generalize l2[n] = bb at *
            clear hc2
            cases bb with
            | true =>
              have HSV := Lib.hid (save_sst m I9.out.sst HOK4.out.1 (Nat.le_trans (usn_nun T3) (Nat.le_trans (Nat.le_add_right _ _) HOK4.out.2.1)) (Nat.le_trans HOK4.out.2.2.1 (by decide)))
              go_wp2_with fail
              refine HSV.out.mono ?_
              rintro e w7' ⟨S7, s7, R7, σ7, rfl, ⟨sst7, o7⟩, ok7, sp7, _⟩
              have I10 := Lib.hid (I9.out.saved sst7 o7)
              have HOK7 : Hid (Ok9 s7 nm R7 (m - (T3.usn σ3).length) ∧ T3.nun σ7 + 65 * l' ≤ m - (T3.usn σ3).length ∧ m - (T3.usn σ3).length ≤ 1625 ∧ R7.length + (m - (T3.usn σ3).length) ≤ 1625) := Lib.hid ⟨ok7, ok_saved HOK4.out.2.1 HOK4.out.2.2.1 HOK4.out.2.2.2 (usn_nun T3) (saved_nun sp7.sv sp7.top) (by
                obtain ⟨X, h1, h2⟩ := sp7.grow
                have h3 : R7 = R ++ X := h1
                rw [h3, List.length_append, h2])⟩
              obtain ⟨rr, hrr⟩ : ∃ rr : Int, rr = ((T3.rec' σ7 : Nat) : Int) := ⟨_, rfl⟩
              rw [← hrr]
              clear sst7 o7 ok7 sp7 HSV I9 hrr
              go_wp2_with fail
              exact ⟨⟨L', n + 1, l', some ⟨g9, 0, none⟩, cap9, T3, σ7, k', S7, s7, R7, m - (T3.usn σ3).length, HNF.out.1, HNF.out.2.1, rfl, by go_num, Lib.hid HNF.out.2.2, HLL, I10, HSTEP, HK3, HOK7⟩, next_meas HNF.out.1⟩
            | false =>
              go_wp2_with fail
              exact ⟨⟨L', n + 1, l', some ⟨g9, 0, none⟩, cap9, T3, σ3, k', S, s, R, m, HNF.out.1, HNF.out.2.1, rfl, by go_num, Lib.hid HNF.out.2.2, HLL, I9, HSTEP, HK3, HOK4⟩, next_meas HNF.out.1⟩
          · have hk : ¬ (n : Int) < l2.length := by omega
            go_wp2_with fail
            exact ⟨⟨L', n + 1, l', some ⟨g9, 0, none⟩, cap9, T3, σ3, k', S, s, R, m, HNF.out.1, HNF.out.2.1, rfl, by go_num, Lib.hid HNF.out.2.2, HLL, I9, HSTEP, HK3, HOK4⟩, next_meas HNF.out.1⟩
      case neg =>
        obtain rfl : ln = 0 := by omega
        obtain rfl : L = [] := List.eq_nil_of_length_eq_zero HLN.out
        have HEQ := Lib.hid HLF.out.done
        have HSV := Lib.hid (save_sst m HI.out.sst HOK.out.1 (Nat.le_trans (usn_nun T) (Nat.le_trans (Nat.le_add_right _ _) HOK.out.2.1)) (Nat.le_trans HOK.out.2.2.1 (by decide)))
        have HKX : Hid (H32 (keys k2)) := Lib.hid HI.out.sst.kx.h32
        clear hgo hln HNL HLN HLF
        go_wp2_with fail
        refine HSV.out.mono ?_
        rintro e w7' ⟨S7, s7, R7, σ7, rfl, ⟨sst7, o7⟩, ok7, sp7, _⟩
        have I7 := Lib.hid sst7
        have HW7 := Lib.hid (sst7.tl.was sp7.top)
        have HRL : Hid (R7.length < 1000000000) := Lib.hid (by
          have h1 := ok7.ends
          have h2 := ends_many R7
          clear I7 HW7
          omega)
        have HLD := Lib.hid (load_was w7' Bd d l S7 s7 nm R7 T σ7 k sst7.tl.cl.dl HRL.out HW7.out (Nat.le_trans HKN.out (by omega)))
        obtain ⟨rr, hrr⟩ : ∃ rr : Int, rr = ((T.rec' σ7 : Nat) : Int) := ⟨_, rfl⟩
        rw [← hrr] at HLD ⊢
        clear sst7 o7 ok7 sp7 HSV HI HOK hrr
        go_wp2_with fail
        refine HLD.out.mono ?_
        rintro e w8' ⟨ub, U, σu, rfl, ct8, _, _, b8⟩
        have I8 := Lib.hid (I7.out.below b8)
        have HIS1 := Lib.hid (is_to w8' (HG.out.kb I8.out.tl.cl.bel) w.heap.size w.heap.size T σ7 k2 w.heap.size w5.heap.size vh vn v3 l3 ⟨I8.out.tl.ct.eqe HEQ.out HKX.out HND.out, I8.out.kx⟩ (iseen_kb HL3.out I8.out.tl.cl.bel) (Nat.le_trans HKL.out (by decide)))
        have HIS2 : Hid (∀ W, Below w8'.heap.size w8' W → Calls Tryz.prog 22 #[.pointer (some ⟨w5.heap.size, 0, none⟩), .pointer (some ⟨ub, 0, none⟩), v3] W fun e w' => e = .returned (.bool true) ∧ Below W.heap.size W w') := Lib.hid fun W hW =>
          is_to W (HG.out.kb (I8.out.below hW).tl.cl.bel) w7'.heap.size ub U σu k2 w.heap.size w5.heap.size vh vn v3 l3 ⟨(ct8.kb hW).eqe HEQ.out HKX.out HND.out, (I8.out.below hW).kx⟩ (iseen_kb HL3.out (I8.out.below hW).tl.cl.bel) (Nat.le_trans HKL.out (by decide))
        clear ct8 b8 HLD I7
        go_wp2_with fail
        refine HIS1.out.mono ?_
        rintro e w9' ⟨rfl, b9⟩
        have B9 := Lib.hid b9
        have HIS3 := Lib.hid (HIS2.out w9' b9)
        clear b9
        go_wp2_with fail
        refine HIS3.out.mono ?_
        rintro e w10' ⟨rfl, b10⟩
        have B10 := Lib.hid b10
        clear b10
        go_wp2_with fail
        go_ret
        exact ⟨rfl, I8.out.tl.cl.bel.trans ((B9.out.trans (B10.out.mono B9.out.size)).mono I8.out.tl.cl.bel.size)⟩
end Go.Proofs.YtbpccbhlggcmfaaGreatDoor
