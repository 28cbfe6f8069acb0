/- Reading back what encode wrote: a number. No condition. · A single hash is loaded from its record. No condition. · A tree loaded anew: the same up to its blocks. No condition. -/
import Derived.Test.YtbpccbhlggcmfaaGreatDoorRadSw
import Derived.Test.YtbpccbhlggcmfaaGreatDoorOctEnc
import Derived.Test.YtbpccbhlggcmfaaGreatDoorOctR
import Derived.Laws.IdiomCopy
namespace Go.Proofs.YtbpccbhlggcmfaaGreatDoor
open Go.RowKit

theorem rv_vb {n : Int} (h0 : 0 ≤ n) (h1 : n < 9223372036854775808) (rest : List Int) : rv 10 0 0 (vb n ++ rest) = some (n, rest) := by
  have hw : IntKind.u64.wrap n = n := by rw [IntKind.wrap_u64]; omega
  have := rv_leb 9 0 0 n rest rfl h0 (by rw [← hw]; exact u64_lt n) (fun h => absurd h (by decide)) (by simp; omega)
  unfold vb
  rw [hw]
  simpa using this
/-- A number that was written is read. -/
theorem rvb_to (B : Nat) (w : World) (b : Nat) (v : Value) (n : Int) (rest : List Int) (h0 : 0 ≤ n) (h1 : n < 9223372036854775808) (h : Rd 188 B w b v (vb n ++ rest) false) :
    Calls Tryz.prog 94 #[.pointer (some ⟨b, 0, none⟩)] w fun e w' => e = .returned (.int .i64 n) ∧ Rdd 188 B w b v rest false w' := by
  refine (rvar_any B w b v _ false h).mono fun e w' hp => ?_
  rw [rv_vb h0 h1] at hp
  unfold VarPost at hp
  have hw : wrap64 n = n := IntWalk.wrap64_in _ (by omega)
  change e = .returned (.int .i64 (wrap64 n)) ∧ _ at hp
  rw [hw] at hp
  exact hp
/-- The numbers below a fork, from way k on, as they were written. -/
def vbs (ρ : Nat → Nat) (ws : Fin 16 → Nd) (k : Nat) : List Int := (fins.drop k).flatMap fun i => vb ((ws i).rec' ρ : Int)
theorem vbs_zero (ρ : Nat → Nat) (ws : Fin 16 → Nd) : vbs ρ ws 0 = frec ρ ws := rfl
theorem vbs_16 (ρ : Nat → Nat) (ws : Fin 16 → Nd) : vbs ρ ws 16 = [] := by
  unfold vbs
  rw [List.drop_of_length_le (by decide)]; rfl
theorem vbs_succ (ρ : Nat → Nat) (ws : Fin 16 → Nd) (k : Nat) (h : k < 16) : vbs ρ ws k = vb ((ws ⟨k, h⟩).rec' ρ : Int) ++ vbs ρ ws (k + 1) := by
  have h1 : fins.drop k = ⟨k, h⟩ :: fins.drop (k + 1) := by
    have hl : k < fins.length := h
    rw [List.drop_eq_getElem_cons hl]
    congr 1
    have := fins_at k h
    rw [List.getElem?_eq_getElem hl] at this
    exact Option.some.inj this
  unfold vbs
  rw [h1, List.flatMap_cons]
/-- The record numbers below a fork. -/
def recl (ρ : Nat → Nat) (ws : Fin 16 → Nd) : List Int := fins.map fun i => ((ws i).rec' ρ : Int)
theorem recl_at (ρ : Nat → Nat) (ws : Fin 16 → Nd) (i : Fin 16) : (recl ρ ws)[i.val]? = some ((ws i).rec' ρ : Int) := by
  unfold recl fins
  rw [List.getElem?_map]
  simp
theorem recl_length (ρ : Nat → Nat) (ws : Fin 16 → Nd) : (recl ρ ws).length = 16 := by simp [recl, fins]
/-- Those read so far, and zeros. -/
def rrow9 (ρ : Nat → Nat) (ws : Fin 16 → Nd) (k : Nat) : List Value := (((recl ρ ws).take k) ++ List.replicate (16 - k) 0).map (Value.int .i64)
theorem rrow9_set (ρ : Nat → Nat) (ws : Fin 16 → Nd) (k : Nat) (h : k < 16) : (rrow9 ρ ws k).set k (.int .i64 ((ws ⟨k, h⟩).rec' ρ : Int)) = rrow9 ρ ws (k + 1) := by
  have hl := recl_length ρ ws
  have ha := recl_at ρ ws ⟨k, h⟩
  unfold rrow9
  rw [← List.map_set]
  congr 1
  have hk : ((recl ρ ws).take k).length = k := by rw [List.length_take]; omega
  rw [List.set_append_right _ _ (by omega), hk, Nat.sub_self, show 16 - k = (16 - (k + 1)) + 1 from by omega, List.replicate_succ, List.set_cons_zero, List.take_add_one]
  have ha' : (recl ρ ws)[k]? = some ((ws ⟨k, h⟩).rec' ρ : Int) := ha
  rw [ha']
  simp
theorem rrow9_length (ρ : Nat → Nat) (ws : Fin 16 → Nd) (k : Nat) (h : k ≤ 16) : (rrow9 ρ ws k).length = 16 := by
  have := recl_length ρ ws
  simp [rrow9]; omega
theorem Rd.drw {T B b : Nat} {w : World} {v : Value} {l : List Int} {lk : Bool} (h : Rd T B w b v l lk) : Rd T B w.drew b v l lk := h.kept (S := fun _ => False) ((Only.refl _ w).drew) (fun h => h) (fun _ _ h => h)
/-- A row of sixteen ints is loaded: one step. -/
noncomputable def ald (a : Addr) : Sem Value := loadVar 171 a
theorem ald_open (a : Addr) : loadVar 171 a = ald a := rfl
attribute [local go_sem ↓] ald_open
/-- What decode answers of a fork's record. -/
def DePost (w : World) (ρ : Nat → Nat) (ws : Fin 16 → Nd) (e : Ending) (w' : World) : Prop := e = .returned (.tuple #[.agg (rrow9 ρ ws 16).toArray, .bool true]) ∧ Below w.heap.size w w'
theorem arrinfo (a : Array Value) (h : a.size = 16) : (Tryz.prog.info? 171).map (·.size) = some a.size := by rw [h]; kernel_rfl
theorem rrow9_one (ρ : Nat → Nat) (ws : Fin 16 → Nd) (k : Nat) : (rrow9 ρ ws k).toArray.all (·.oneCell') = true := by
  rw [List.all_toArray, List.all_eq_true]
  intro u hu
  obtain ⟨y, _, rfl⟩ := List.mem_map.1 hu
  rfl
set_option linter.unusedSimpArgs false in
set_option maxRecDepth 20000 in
set_option maxHeartbeats 4000000 in
theorem decode_to9 (w : World) (ρ : Nat → Nat) (num : Nat) (ws : Fin 16 → Nd) (v : Value) (hs : Seen w v (frec ρ ws)) (hlt : ∀ i, (ws i).rec' ρ < num) (hnum : num < 1000000000) :
    Calls Tryz.prog 97 #[.int .i64 num, v] w (DePost w ρ ws) := by
  have HS := Lib.hid hs
  have HLT := Lib.hid hlt
  clear hs hlt
  go_enter Tryz.func97, Tryz.ntmps97
  go_wp2_with fail
  have hz0 : rrow9 ρ ws 0 = [.int .i64 0, .int .i64 0, .int .i64 0, .int .i64 0, .int .i64 0, .int .i64 0, .int .i64 0, .int .i64 0, .int .i64 0, .int .i64 0, .int .i64 0, .int .i64 0, .int .i64 0, .int .i64 0, .int .i64 0, .int .i64 0] := rfl
  have b0 := ((Below.refl w.heap.size w).alloc (Nat.le_refl _) (.cells (rrow9 ρ ws 0).toArray 171)).alloc (by simp) (.cells (rrow9 ρ ws 0).toArray 171)
  have hr0 : ((w.alloc (.cells (rrow9 ρ ws 0).toArray 171)).alloc (.cells (rrow9 ρ ws 0).toArray 171)).heap[w.heap.size]? = some (.cells (rrow9 ρ ws 0).toArray 171 (0, 0)) := (Below.heap_alloc _ _ _ (by simp)).trans (heap_alloc_last w _)
  have hb0 : ((w.alloc (.cells (rrow9 ρ ws 0).toArray 171)).alloc (.cells (rrow9 ρ ws 0).toArray 171)).heap[w.heap.size + 1]? = some (.cells (rrow9 ρ ws 0).toArray 171 (0, 0)) := by
    have := heap_alloc_last (w.alloc (.cells (rrow9 ρ ws 0).toArray 171)) (.cells (rrow9 ρ ws 0).toArray 171)
    rwa [show (w.alloc (.cells (rrow9 ρ ws 0).toArray 171)).heap.size = w.heap.size + 1 from by simp] at this
  have hsz : ((w.alloc (.cells (rrow9 ρ ws 0).toArray 171)).alloc (.cells (rrow9 ρ ws 0).toArray 171)).heap.size = w.heap.size + 2 := by simp
  have HB0 := Lib.hid b0
  have HR0 := Lib.hid hr0
  have HBB := Lib.hid hb0
  have HSZ := Lib.hid hsz
  rw [← hz0]
  clear b0 hr0 hb0 hsz hz0
  generalize (w.alloc (.cells (rrow9 ρ ws 0).toArray 171)).alloc (.cells (rrow9 ρ ws 0).toArray 171) = w0 at *
  refine (newreader_any w0 w0.heap.size (Nat.le_refl _) v (frec ρ ws) (by have := fv_length ρ ws 16 (Nat.le_refl _); rw [fv_16] at this; omega) (okb_body ρ (.fork 0 0 ws)) (HS.out.kb HB0.out)).mono ?_
  rintro e w1 ⟨rb, v1, rfl, rd1, b1, hrb, _⟩
  have I0 : Hid (∃ v', Rd 188 w0.heap.size w1 rb v' (vbs ρ ws 0) false) := Lib.hid ⟨v1, rd1⟩
  have B1 := Lib.hid (HB0.out.trans (b1.mono HB0.out.size))
  have R1 := Lib.hid ((b1.block w.heap.size (Array.getElem?_eq_some_iff.1 HR0.out).1).trans HR0.out)
  have BB1 := Lib.hid ((b1.block (w.heap.size + 1) (Array.getElem?_eq_some_iff.1 HBB.out).1).trans HBB.out)
  have HRB := Lib.hid hrb
  clear rd1 b1 hrb
  go_wp2_with fail
  go_loopw [11] (fun i wr => ∃ (k : Nat), k ≤ 16 ∧ i = .int .i64 k ∧ Hid (Below w.heap.size w wr) ∧ Hid (wr.heap[w.heap.size]? = some (.cells (rrow9 ρ ws 0).toArray 171 (0, 0))) ∧ Hid (wr.heap[w.heap.size + 1]? = some (.cells (rrow9 ρ ws k).toArray 171 (0, 0))) ∧ Hid (∃ v', Rd 188 w0.heap.size wr rb v' (vbs ρ ws k) false)) (fun i _ => 16 - (intOf i).toNat)
  case atStart => exact ⟨0, by omega, rfl, B1, R1, BB1, I0⟩
  case round =>
    obtain ⟨k, hk, rfl, BW, HR, HBk, HI⟩ := hrel
    obtain ⟨vk, hvk⟩ := HI.out
    have HV := Lib.hid hvk
    clear hvk HI
    by_cases hlt : k < 16
    · have hdc : decide ((k : Int) < 16) = true := decide_eq_true (by omega)
      have HLk := Lib.hid (HLT.out ⟨k, hlt⟩)
      have HST := Lib.hid (rrow9_set ρ ws k hlt)
      have HSU := Lib.hid (vbs_succ ρ ws k hlt)
      rw [HSU.out] at HV
      obtain ⟨r, hr⟩ : ∃ r, r = (ws ⟨k, hlt⟩).rec' ρ := ⟨_, rfl⟩
      rw [← hr] at HV HLk HST
      have HVR := Lib.hid (rvb_to _ wr rb vk r (vbs ρ ws (k + 1)) (by omega) (by have := HLk.out; omega) HV.out)
      have hge : decide ((r : Int) ≥ num) = false := decide_eq_false (by have := HLk.out; omega)
      have hge2 : decide ((num : Int) ≤ r) = false := decide_eq_false (by have := HLk.out; omega)
      have hge3 : decide (num ≤ r) = false := decide_eq_false (by have := HLk.out; omega)
      have hge4 : ¬ (num ≤ r) := by have := HLk.out; omega
      clear hr
      go_wp2_with fail
      refine HVR.out.mono ?_
      rintro e w3 ⟨rfl, v3, h3, o3, _⟩
      have H3 := Lib.hid h3
      have hrb2 := HRB.out
      have hsz2 := HSZ.out
      have B3 : Hid (Below w.heap.size w w3) := Lib.hid (BW.out.trans (o3.below BW.out.size (fun j hj => by omega)))
      have R3 := Lib.hid ((o3.block w.heap.size (Array.getElem?_eq_some_iff.1 HR.out).1 (by omega)).trans HR.out)
      have BB3 := Lib.hid ((o3.block (w.heap.size + 1) (Array.getElem?_eq_some_iff.1 HBk.out).1 (by omega)).trans HBk.out)
      have hcell : ∃ u, w3.cell? ⟨w.heap.size + 1, k, none⟩ = some u := by
        rw [cell_of_row w3 _ k _ _ _ BB3.out, List.getElem?_toArray, List.getElem?_eq_getElem (by rw [rrow9_length ρ ws k hk]; exact hlt)]
        exact ⟨_, rfl⟩
      obtain ⟨u, hu⟩ := hcell
      have fz : w3.frozen? ⟨w.heap.size + 1, k, none⟩ = false := by simp [World.frozen?, BB3.out]
      have hset := cells_set (j := k) BB3.out (.int .i64 (r : Int))
      rw [HST.out] at hset
      have HSET := Lib.hid hset
      clear h3 o3 hset
      go_wp2_with fail
      go_round
      case rel => exact ⟨k + 1, by omega, by go_num, Lib.hid (((Only.of_below (S := fun j => w.heap.size ≤ j) B3.out).setCell (p := ⟨w.heap.size + 1, k, none⟩) (Nat.le_succ _) _).below (Nat.le_refl _) (fun _ h => h)), Lib.hid ((Below.heap_setCell _ _ _ _ (by simp)).trans R3.out), HSET, Lib.hid ⟨v3, H3.out.kept (S := fun j => j = w.heap.size + 1) (Only.setCell (S := fun j => j = w.heap.size + 1) (Only.refl _ w3) (p := ⟨w.heap.size + 1, k, none⟩) rfl _) (by omega) (fun j hj e => by have := (H3.out.own j hj).1; omega)⟩⟩
      case measure => simp [intOf]; omega
    · obtain rfl : k = 16 := by omega
      have hdc : decide (((16 : Nat) : Int) < 16) = false := by decide
      rw [vbs_16] at HV
      have hl16 := rrow9_length ρ ws 16 (Nat.le_refl _)
      have hld16 : ∀ W : World, W.heap[w.heap.size + 1]? = some (.cells (rrow9 ρ ws 16).toArray 171 (0, 0)) → (ald ⟨w.heap.size + 1, 0, none⟩).run Tryz.prog W = .ok (.agg (rrow9 ρ ws 16).toArray) W := fun W h => by
        have := run_loadVar_mid (P := Tryz.prog) W (w.heap.size + 1) 0 171 (rrow9 ρ ws 16) _ (by have := range_row h; simpa using this) Tryz.underlying171 rfl (by have := arrinfo (rrow9 ρ ws 16).toArray (by simpa using hl16); simpa using this)
        exact this
      have HLD := Lib.hid hld16
      have HL16 := Lib.hid hl16
      have hq0 := hld16 wr.drew HBk.out
      clear hld16 hl16
      go_wp2_with fail
      have HONE := Lib.hid (rrow9_one ρ ws 16)
      have hthere : wr.drew.there w.heap.size 0 (rrow9 ρ ws 16).toArray.size := by
        have := there_row (w := wr.drew) HR.out
        rwa [show (rrow9 ρ ws 0).toArray.size = (rrow9 ρ ws 16).toArray.size from by simp [rrow9_length ρ ws 0 (by omega), HL16.out]] at this
      have hq1 := HLD.out (wr.drew.setCells w.heap.size 0 (rrow9 ρ ws 16).toArray.toList) (((Only.setCells (S := fun j => j = w.heap.size) rfl _ _ (Only.refl _ wr.drew)).block (w.heap.size + 1) (Array.getElem?_eq_some_iff.1 HBk.out).1 (by omega)).trans HBk.out)
      have hq2 := loaded (P := Tryz.prog) (w := wr.drew) (t := 171) hthere Tryz.underlying171 rfl (arrinfo _ (by simpa using HL16.out))
      have HB5 := Lib.hid ((Only.setCells (S := fun j => w.heap.size ≤ j) (Nat.le_refl _) (rrow9 ρ ws 16).toArray.toList 0 ((Only.of_below (S := fun j => w.heap.size ≤ j) BW.out).drew)).below (Nat.le_refl _) (fun _ h => h))
      have HQ2 := Lib.hid hq2
      clear hq2
      obtain ⟨row, hrow⟩ : ∃ row, row = rrow9 ρ ws 16 := ⟨_, rfl⟩
      rw [← hrow] at HLD HL16 hq0 HONE hthere hq1 HB5 HQ2
      have HROW := Lib.hid hrow
      clear hrow
      try simp only [List.append]
      refine wp_region_noPanic ?_
      refine wp_region_held_drew (S := (fun W => (ald ⟨w.heap.size + 1, 0, none⟩).run Tryz.prog W = .ok (.agg row.toArray) W)) (by kernel_rfl) hq0 (fun hHeld => ?_)
      refine wpAnyH_take (i := 0) (v := ?_) (by simp only [List.getElem?_toArray, List.getElem?_cons_zero]; rfl) (by kernel_rfl) (by kernel_rfl) (by kernel_rfl) (fun _ _ _ h => h) (Or.inl ⟨by rfl, ?_⟩) (by assumption) ?_
      rotate_left
      · intro w hSw
        try dsimp only at hSw
        go_simp
        try with_reducible rfl
      try simp only [Act.put, List.setIfInBounds_toArray, List.set_cons_zero, List.set_cons_succ]
      refine wpAnyH_take (i := 1) (v := ?_) (by simp only [List.getElem?_toArray, List.getElem?_cons_succ, List.getElem?_cons_zero]; rfl) (by kernel_rfl) (by kernel_rfl) (by kernel_rfl) (fun _ _ _ h => h) (Or.inl ⟨by rfl, ?_⟩) (by assumption) ?_
      rotate_left
      · intro w hSw
        try dsimp only at hSw
        go_simp
        try with_reducible rfl
      try simp only [Act.put, List.setIfInBounds_toArray, List.set_cons_zero, List.set_cons_succ]
      refine wpAnyH_ready (rs := [2]) (by kernel_rfl) (by simp) ?_
      refine AllReadyH.cons (by simp only [List.getElem?_toArray, List.getElem?_cons_succ, List.getElem?_cons_zero]; rfl) (fun K hK => ?_) AllReadyH.nil
      go_simp
      refine (lack_any w0.heap.size wr.drew rb vk _ _ HV.out.drw).mono ?_
      rintro e w5 ⟨rfl, rfl⟩
      go_wp2_with fail
      refine hK.out _ _ hq0 (fun hHeld => ?_)
      clear hK K
      try simp only [Act.put, List.setIfInBounds_toArray, List.set_cons_zero, List.set_cons_succ]
      refine wpAnyH_take (i := 3) (v := ?_) (by simp only [List.getElem?_toArray, List.getElem?_cons_succ, List.getElem?_cons_zero]; rfl) (by kernel_rfl) (by kernel_rfl) (by kernel_rfl) (fun _ _ _ h => h) (Or.inl ⟨by rfl, ?_⟩) (by assumption) ?_
      rotate_left
      · intro w hSw
        try dsimp only at hSw
        go_simp
        try with_reducible rfl
      try simp only [Act.put, List.setIfInBounds_toArray, List.set_cons_zero, List.set_cons_succ]
      refine wpAnyH_take (i := 4) (v := ?_) (by simp only [List.getElem?_toArray, List.getElem?_cons_succ, List.getElem?_cons_zero]; rfl) (by kernel_rfl) (by kernel_rfl) (by kernel_rfl) (fun _ _ _ h => h) (Or.inl ⟨by rfl, ?_⟩) (by assumption) ?_
      rotate_left
      · intro w hSw
        try dsimp only at hSw
        go_simp
        try with_reducible rfl
      try simp only [Act.put, List.setIfInBounds_toArray, List.set_cons_zero, List.set_cons_succ]
      refine wpAnyH_take (i := 5) (v := ?_) (by simp only [List.getElem?_toArray, List.getElem?_cons_succ, List.getElem?_cons_zero]; rfl) (by kernel_rfl) (by kernel_rfl) (by kernel_rfl) (fun _ _ _ h => h) (Or.inl ⟨by rfl, ?_⟩) (by assumption) ?_
      rotate_left
      · intro w hSw
        try dsimp only at hSw
        go_simp
        try with_reducible rfl
      try simp only [Act.put, List.setIfInBounds_toArray, List.set_cons_zero, List.set_cons_succ]
      refine wpAnyH_ready (rs := [6]) (by kernel_rfl) (by simp) ?_
      refine AllReadyH.cons (by simp only [List.getElem?_toArray, List.getElem?_cons_succ, List.getElem?_cons_zero]; rfl) (fun K hK => ?_) AllReadyH.nil
      go_simp
      refine (left_any w0.heap.size wr.drew rb vk _ _ HV.out.drw).mono ?_
      rintro e w5 ⟨rfl, rfl⟩
      go_wp2_with fail
      refine hK.out _ _ hq0 (fun hHeld => ?_)
      clear hK K
      try simp only [Act.put, List.setIfInBounds_toArray, List.set_cons_zero, List.set_cons_succ]
      refine wpAnyH_take (i := 7) (v := ?_) (by simp only [List.getElem?_toArray, List.getElem?_cons_succ, List.getElem?_cons_zero]; rfl) (by kernel_rfl) (by kernel_rfl) (by kernel_rfl) (fun _ _ _ h => h) (Or.inl ⟨by rfl, ?_⟩) (by assumption) ?_
      rotate_left
      · intro w hSw
        try dsimp only at hSw
        go_simp
        try with_reducible rfl
      try simp only [Act.put, List.setIfInBounds_toArray, List.set_cons_zero, List.set_cons_succ]
      refine wpAnyH_take (i := 8) (v := ?_) (by simp only [List.getElem?_toArray, List.getElem?_cons_succ, List.getElem?_cons_zero]; rfl) (by kernel_rfl) (by kernel_rfl) (by kernel_rfl) (fun _ _ _ h => h) (Or.inl ⟨by rfl, ?_⟩) (by assumption) ?_
      rotate_left
      · intro w hSw
        try dsimp only at hSw
        go_simp
        try with_reducible rfl
      try simp only [Act.put, List.setIfInBounds_toArray, List.set_cons_zero, List.set_cons_succ]
      refine wpAnyH_ready (rs := [9]) (by kernel_rfl) (by simp) ?_
      refine AllReadyH.cons (by simp only [List.getElem?_toArray, List.getElem?_cons_succ, List.getElem?_cons_zero]; rfl) (fun K hK => ?_) AllReadyH.nil
      refine wp_store_mid _ _ _ rfl w.heap.size 0 row.toArray rfl rfl hthere (arrinfo _ (by simpa using HL16.out)) HONE.out ?_
      refine hK.out _ _ hq1 (fun hHeld => ?_)
      clear hK K
      try simp only [Act.put, List.setIfInBounds_toArray, List.set_cons_zero, List.set_cons_succ]
      refine wpAnyH_take (i := 10) (v := ?_) (by simp only [List.getElem?_toArray, List.getElem?_cons_succ, List.getElem?_cons_zero]; rfl) (by kernel_rfl) (by kernel_rfl) (by kernel_rfl) (fun _ _ _ h => h) (Or.inl ⟨by rfl, ?_⟩) (by assumption) ?_
      rotate_left
      · intro w hSw
        try dsimp only at hSw
        go_simp
        try with_reducible rfl
      try simp only [Act.put, List.setIfInBounds_toArray, List.set_cons_zero, List.set_cons_succ]
      refine wpAnyH_done (by kernel_rfl) ?_ _
      refine NoPanic.normal ?_
      go_wp2_with fail
      (try simp only [Exit.inBlock, Exit.then])
      refine bodyPost_ret (v := .tuple #[.agg row.toArray, .bool true]) (w := wr.drew.setCells w.heap.size 0 row.toArray.toList) ?_ rfl ⟨by rw [HROW.out], HB5.out⟩
      have hl := HQ2.out
      generalize wr.drew.setCells w.heap.size 0 row.toArray.toList = W3 at hl ⊢
      simp only [results, Tryz.results97]
      simp [hl, asAddr]
end Go.Proofs.YtbpccbhlggcmfaaGreatDoor
namespace Go.Proofs.YtbpccbhlggcmfaaGreatDoor
open Go.RowKit
open Go.Maps
attribute [local go_sem ↓] hld_open heq_open hne_open

theorem wp_copy_cells {P : Program} {o : Oper} {a : Act} {w : World} {K : Act → World → Prop} {Q : Exit → Act → World → Prop} (d s : Operand) (dT sT : TypeId)
    (ho : o.op = .call { callee := .builtin .copy, args := #[d, s], argTypes := #[dT, sT] }) (elem : TypeId) (hu : P.underlying dT = some (.slice elem)) (hsz : (P.info? elem).map (·.size) = some 1)
    (g off dLen dCap : Nat) (ad : Addr) (sLen sCap : Nat) (hd : a.eval d = .slice (some ⟨g, off, none⟩) dLen dCap) (hs : a.eval s = .slice (some ad) sLen sCap) (cs : List Value) (hn : cs.length = Nat.min sLen dLen)
    (hsrc : ∀ j v, cs[j]? = some v → w.cell? (ad.add j) = some v) (ht : w.there g off cs.length) (h1 : ∀ v ∈ cs, v.oneCell' = true)
    (h : K (a.put o.dst (goInt cs.length)) (w.setCells g off cs)) : o.wp P a w K Q := by
  have hrun := run_copy_cells (P := P) w dT sT o.type elem g off dLen dCap ad sLen sCap cs hu hsz hn hsrc (fun j hj => (ht j hj).1) (fun j hj => (ht j hj).2) h1
  unfold Oper.wp
  simp [execOp, ho, resolve, invoke, builtin, hd, hs, hrun, Result.andThen]
  exact h
theorem there_mid {w : World} {p o n : Nat} {h : Array Value} {t : TypeId} (hp : w.heap[p]? = some (.cells h t (0, 0))) (hn : o + n ≤ h.size) : w.there p o n := fun j hj => by
  constructor
  · rw [cell_of_row w p (o + j) h t (0, 0) hp, Array.getElem?_eq_getElem (by omega)]; rfl
  · simp [World.frozen?, hp]
/-- A reading: how many hashes so far. -/
def RB (W : World) (rb l n : Nat) : Prop := W.heap[rb]? = some (.cells #[.pointer (some ⟨l, 0, none⟩), .int .i64 (n : Nat)] 98 (0, 0))
theorem RB.c1 {W : World} {rb l n : Nat} (h : RB W rb l n) : W.cell? ⟨rb, 1, none⟩ = some (.int .i64 n) := by rw [cell_of_row W rb 1 _ _ _ h]; rfl
theorem RB.c0 {W : World} {rb l n : Nat} (h : RB W rb l n) : W.cell? ⟨rb, 0, none⟩ = some (.pointer (some ⟨l, 0, none⟩)) := by rw [cell_of_row W rb 0 _ _ _ h]; rfl
theorem RB.set {W : World} {rb l n : Nat} (h : RB W rb l n) (m : Nat) : RB (W.setCell ⟨rb, 1, none⟩ (.int .i64 (m : Nat))) rb l m := two_set1 h
theorem RB.lt {W : World} {rb l n : Nat} (h : RB W rb l n) : rb < W.heap.size := (Array.getElem?_eq_some_iff.1 h).1
theorem nb2 (k : Int) : Tryz.prog.built 91 [(0, .int .i64 k)] = some (([.int .i64 k] ++ us (nmb hz) ++ [.int .i64 0, gptr none] : List Value).toArray) := by rw [nfill]; rfl
theorem nl_puts (r : Nat) (h : List UInt8) (m : Int) (g : Option Nat) (hh : h.length = 32) : puts (nl r hz m g) 1 (us (nmb h)) = nl r h m g := by
  have hl : (us (nmb h)).length = 32 := by simp [us, nm_length, hh]
  have hl2 : (us (nmb hz)).length = 32 := by simp [us, nm_length, hz_len]
  unfold puts nl
  rw [hl, List.append_assoc, List.append_assoc, List.take_left' (by rfl), show 1 + 32 = ([.int .i64 (r : Int)] ++ us (nmb hz) : List Value).length from by simp [hl2], ← List.append_assoc [Value.int .i64 (r : Int)] (us (nmb hz)), List.drop_left, ← List.append_assoc]
theorem nl_33set (r : Nat) (h : List UInt8) (m m' : Int) (g : Option Nat) (hh : h.length = 32) : (nl r h m g).set 33 (.int .i64 m') = nl r h m' g := by
  have hl : (us (nmb h)).length = 32 := by simp [us, nm_length, hh]
  unfold nl
  rw [List.set_append_right _ _ (by simp [hl])]
  simp [hl]
/-- Behind the loading of one hash. -/
def SgPost (w : World) (rb l n num : Nat) (h : List UInt8) (m : Int) (e : Ending) (w' : World) : Prop := ∃ b, e = .returned (.pointer (some ⟨b, 0, none⟩)) ∧ w'.heap[b]? = some (.cells (nv num h m none) 91 (0, 0)) ∧ w.heap.size ≤ b ∧ RB w' rb l (n + 1) ∧ Only (fun k => k = rb) w w'
set_option linter.unusedSimpArgs false in
set_option maxRecDepth 20000 in
set_option maxHeartbeats 4000000 in
theorem single_to (w : World) (rb l n num : Nat) (h : List UInt8) (m : Int) (v : Value) (p : List UInt8) (hb : RB w rb l n) (hh : h.length = 32) (hm : 0 ≤ m ∧ m ≤ 1000000) (hn : n + 1 ≤ 2000) (hs : Seen w v (lrec h m)) (hp : p <+: tx h) :
    Calls Tryz.prog 73 #[.pointer (some ⟨rb, 0, none⟩), .int .i64 num, v, .string ⟨p.toArray⟩] w (SgPost w rb l n num h m) := by
  have HB := Lib.hid hb
  have HH := Lib.hid hh
  have HM := Lib.hid hm
  have HS := Lib.hid hs
  have HPF : Hid (p.isPrefixOf (tx h) = true) := Lib.hid (List.isPrefixOf_iff_prefix.2 hp)
  have HL : Hid ((us (nmb h)).length = 32) := Lib.hid (by simp [us, nm_length, hh])
  have hbl := hb.lt
  obtain ⟨x0, hx0⟩ : ∃ x, x = nv num hz 0 none := ⟨_, rfl⟩
  have hbu : Tryz.prog.built 91 [(0, .int .i64 num)] = some x0 := by rw [hx0]; exact nb2 num
  have HX0 := Lib.hid hx0
  have HBU := Lib.hid hbu
  clear hb hh hm hs hp hx0 hbu
  go_enter Tryz.func73, Tryz.ntmps73
  go_wp2_with (refine build_to (vals := #[(0, .int .i64 num)]) HBU.out ?hv ?_; (case hv => simp [Act.eval]))
  have HB0 : Hid (RB (w.alloc (.cells x0 91)) rb l n) := Lib.hid ((Below.heap_alloc w _ _ hbl).trans HB.out)
  have HK0 : Hid ((w.alloc (.cells x0 91)).heap[w.heap.size]? = some (.cells x0 91 (0, 0))) := Lib.hid (heap_alloc_last w _)
  have HO0 : Hid (Only (fun k => k = rb) w (w.alloc (.cells x0 91))) := Lib.hid (Only.of_below ((Below.refl w.heap.size w).alloc (Nat.le_refl _) _))
  have HS0 := Lib.hid (HS.out.kb ((Below.refl w.heap.size w).alloc (Nat.le_refl _) (.cells x0 91)))
  have HZ0 : Hid ((w.alloc (.cells x0 91)).heap.size = w.heap.size + 1) := Lib.hid (by simp)
  generalize w.alloc (.cells x0 91) = w0 at *
  refine (newreader_any w0 w0.heap.size (Nat.le_refl _) v (lrec h m) (by have := HL.out; have := leb_length 9 (Go.IntKind.u64.wrap m); simp [lrec, vb, us] at *; omega) ((nmb_ok h).app (vb_ok m)) HS0.out).mono ?_
  rintro e w1 ⟨q, v1, rfl, rd1, b1, hq, _⟩
  have HZ := HZ0.out
  have R1 := Lib.hid rd1
  have HQ := Lib.hid hq
  have HB1 : Hid (RB w1 rb l n) := Lib.hid ((b1.block rb HB0.out.lt).trans HB0.out)
  have HK1 : Hid (w1.heap[w.heap.size]? = some (.cells x0 91 (0, 0))) := Lib.hid ((b1.block w.heap.size (by omega)).trans HK0.out)
  have HO1 : Hid (Only (fun k => k = rb) w w1) := Lib.hid (HO0.out.trans (Only.of_below (S := fun _ => False) b1) (fun _ e => e) (fun _ _ e => e.elim))
  clear rd1 b1 hq
  go_wp2_with fail
  try simp only [List.append]
  refine wp_region_noPanic ?_
  refine wp_region_held_drew (S := (fun _ => True)) (by kernel_rfl) trivial (fun hHeld => ?_)
  refine wpAnyH_take (i := 0) (v := ?_) (by simp only [List.getElem?_toArray, List.getElem?_cons_zero]; rfl) (by kernel_rfl) (by kernel_rfl) (by kernel_rfl) (fun _ _ _ h => h) (Or.inl ⟨by rfl, ?_⟩) (by assumption) ?_
  rotate_left
  · intro w hSw
    try dsimp only at hSw
    go_simp
    try with_reducible rfl
  try simp only [Act.put, List.setIfInBounds_toArray, List.set_cons_zero, List.set_cons_succ]
  refine wpAnyH_take (i := 1) (v := ?_) (by simp only [List.getElem?_toArray, List.getElem?_cons_succ, List.getElem?_cons_zero]; rfl) (by kernel_rfl) (by kernel_rfl) (by kernel_rfl) (fun _ _ _ h => h) (Or.inl ⟨by rfl, ?_⟩) (by assumption) ?_
  rotate_left
  · intro w hSw
    try dsimp only at hSw
    go_simp
    try with_reducible rfl
  try simp only [Act.put, List.setIfInBounds_toArray, List.set_cons_zero, List.set_cons_succ]
  refine wpAnyH_take (i := 2) (v := ?_) (by simp only [List.getElem?_toArray, List.getElem?_cons_succ, List.getElem?_cons_zero]; rfl) (by kernel_rfl) (by kernel_rfl) (by kernel_rfl) (fun _ _ _ h => h) (Or.inl ⟨by rfl, ?_⟩) (by assumption) ?_
  rotate_left
  · intro w hSw
    try dsimp only at hSw
    go_simp
    try with_reducible rfl
  try simp only [Act.put, List.setIfInBounds_toArray, List.set_cons_zero, List.set_cons_succ]
  refine wpAnyH_take (i := 3) (v := ?_) (by simp only [List.getElem?_toArray, List.getElem?_cons_succ, List.getElem?_cons_zero]; rfl) (by kernel_rfl) (by kernel_rfl) (by kernel_rfl) (fun _ _ _ h => h) (Or.inl ⟨by rfl, ?_⟩) (by assumption) ?_
  rotate_left
  · intro w hSw
    try dsimp only at hSw
    go_simp
    try with_reducible rfl
  try simp only [Act.put, List.setIfInBounds_toArray, List.set_cons_zero, List.set_cons_succ]
  refine wpAnyH_take (i := 4) (v := ?_) (by simp only [List.getElem?_toArray, List.getElem?_cons_succ, List.getElem?_cons_zero]; rfl) (by kernel_rfl) (by kernel_rfl) (by kernel_rfl) (fun _ _ _ h => h) (Or.inl ⟨by rfl, ?_⟩) (by assumption) ?_
  rotate_left
  · intro w hSw
    try dsimp only at hSw
    go_simp
    try with_reducible rfl
  try simp only [Act.put, List.setIfInBounds_toArray, List.set_cons_zero, List.set_cons_succ]
  refine wpAnyH_ready (rs := [5]) (by kernel_rfl) (by simp) ?_
  refine AllReadyH.cons (by simp only [List.getElem?_toArray, List.getElem?_cons_succ, List.getElem?_cons_zero]; rfl) (fun K hK => ?_) AllReadyH.nil
  go_simp
  refine (rraw_yes w0.heap.size w1.drew q v1 (lrec h m) false 32 32 rfl (by have := HL.out; simp [lrec, us] at *; omega) R1.out.drw).mono ?_
  rintro e w2 ⟨u, rfl, su, ou, v2, rd2, o2, hv2⟩
  have hnl : (nmb h).length = 32 := by simp [nm_length, HH.out]
  rw [show (lrec h m).take 32 = nmb h from by unfold lrec; rw [← hnl, List.take_left]] at su
  rw [show (lrec h m).drop 32 = vb m from by unfold lrec; rw [← hnl, List.drop_left]] at rd2
  have R2 := Lib.hid rd2
  have hq2 := HQ.out
  have HB2 : Hid (RB w2 rb l n) := Lib.hid ((o2.block rb HB1.out.lt (by have := HB0.out.lt; omega)).trans HB1.out)
  have HK2 : Hid (w2.heap[w.heap.size]? = some (.cells x0 91 (0, 0))) := Lib.hid ((o2.block w.heap.size (Array.getElem?_eq_some_iff.1 HK1.out).1 (by omega)).trans HK1.out)
  have HO2 : Hid (Only (fun k => k = rb) w w2) := Lib.hid (HO1.out.drew.trans o2 (fun _ e => e) (fun k hk e => by subst e; omega))
  have hvq : ∀ k, v2.ownBlock = some k → w.heap.size + 1 ≤ k := fun k hk => by have := (rd2.own k hk).1; omega
  have HVQ := Lib.hid hvq
  rcases su with ⟨_, h0⟩ | ⟨gu, ou', cu, rfl, hcu, hcell⟩
  · rw [h0] at hnl; cases hnl
  have HCE := Lib.hid hcell
  rw [hnl] at hcu ⊢
  clear rd2 o2 hv2 hcell ou hvq
  go_simp
  refine hK.out _ _ trivial (fun hHeld => ?_)
  clear hK K
  try simp only [Act.put, List.setIfInBounds_toArray, List.set_cons_zero, List.set_cons_succ]
  refine wpAnyH_ready (rs := [6]) (by kernel_rfl) (by simp) ?_
  refine AllReadyH.cons (by simp only [List.getElem?_toArray, List.getElem?_cons_succ, List.getElem?_cons_zero]; rfl) (fun K hK => ?_) AllReadyH.nil
  refine wp_copy_cells _ _ _ _ rfl 5 Tryz.underlying71 (by kernel_rfl) w.heap.size 1 32 32 ⟨gu, ou', none⟩ 32 cu rfl rfl (us (nmb h)) (by rw [HL.out]; rfl) (fun j u hj => by rw [Addr.add_lit]; exact HCE.out j u hj) (there_mid HK2.out (by rw [HL.out, HX0.out]; show 33 ≤ (nl num hz 0 none).toArray.size; rw [List.size_toArray, nl_length hz_len]; omega)) (fun u hu => by obtain ⟨y, _, rfl⟩ := List.mem_map.1 hu; rfl) ?_
  refine hK.out _ _ trivial (fun hHeld => ?_)
  clear hK K
  try simp only [Act.put, List.setIfInBounds_toArray, List.set_cons_zero, List.set_cons_succ]
  refine wpAnyH_done (by kernel_rfl) ?_ _
  refine NoPanic.normal ?_
  have HK3 : Hid ((w2.setCells w.heap.size 1 (us (nmb h))).heap[w.heap.size]? = some (.cells (nv num h 0 none) 91 (0, 0))) := Lib.hid (by
    have h1 := HK2.out
    rw [HX0.out] at h1
    have h2 := cells_puts (us (nmb h)) 1 (nl num hz 0 none) w2 h1 (by rw [HL.out, nl_length hz_len]; omega)
    rw [nl_puts num h 0 none HH.out] at h2
    exact h2)
  have o3 : Only (fun k => k = w.heap.size) w2 (w2.setCells w.heap.size 1 (us (nmb h))) := Only.setCells (S := fun k => k = w.heap.size) rfl _ _ (Only.refl _ w2)
  have R3 := Lib.hid (R2.out.kept o3 (by omega) (fun k hk e => by have := HVQ.out k hk; omega))
  have HB3 : Hid (RB (w2.setCells w.heap.size 1 (us (nmb h))) rb l n) := Lib.hid ((o3.block rb HB2.out.lt (by omega)).trans HB2.out)
  have HO3 : Hid (Only (fun k => k = rb) w (w2.setCells w.heap.size 1 (us (nmb h)))) := Lib.hid (HO2.out.trans o3 (fun _ e => e) (fun k hk e => by subst e; omega))
  generalize w2.setCells w.heap.size 1 (us (nmb h)) = w3 at *
  clear o3
  have HV := Lib.hid (rvb_to w0.heap.size w3 q v2 m [] HM.out.1 (by have := HM.out.2; omega) (by rw [List.append_nil]; exact R3.out))
  go_wp2_with fail
  refine HV.out.mono ?_
  rintro e w4 ⟨rfl, v4, r4, o4, hv4⟩
  have HK4 : Hid (w4.heap[w.heap.size]? = some (.cells (nv num h 0 none) 91 (0, 0))) := Lib.hid ((o4.block w.heap.size (Array.getElem?_eq_some_iff.1 HK3.out).1 (by omega)).trans HK3.out)
  have HB4 : Hid (RB w4 rb l n) := Lib.hid ((o4.block rb HB3.out.lt (by omega)).trans HB3.out)
  have HO4 : Hid (Only (fun k => k = rb) w w4) := Lib.hid (HO3.out.trans o4 (fun _ e => e) (fun k hk e => by subst e; omega))
  have HV4 : Hid (∀ k, v4.ownBlock = some k → w.heap.size + 1 ≤ k) := Lib.hid fun k hk => HVQ.out k (hv4 k hk)
  have R4 := Lib.hid r4
  clear r4 o4 hv4 HV
  have c33 := nd_33 HH.out HK4.out
  have f33 : w4.frozen? ⟨w.heap.size, 33, none⟩ = false := by simp [World.frozen?, HK4.out]
  have oa : Only (fun k => k = w.heap.size) w4 (w4.setCell ⟨w.heap.size, 33, none⟩ (.int .i64 m)) := Only.setCell (S := fun k => k = w.heap.size) (Only.refl _ w4) (p := ⟨w.heap.size, 33, none⟩) rfl _
  have HK5 : Hid ((w4.setCell ⟨w.heap.size, 33, none⟩ (.int .i64 m)).heap[w.heap.size]? = some (.cells (nv num h m none) 91 (0, 0))) := Lib.hid (by
    have := cells_set (j := 33) HK4.out (.int .i64 m)
    rw [nl_33set num h 0 m none HH.out] at this
    exact this)
  have HB5 : Hid (RB (w4.setCell ⟨w.heap.size, 33, none⟩ (.int .i64 m)) rb l n) := Lib.hid ((oa.block rb HB4.out.lt (by omega)).trans HB4.out)
  have R5 : Hid (Rd 188 w0.heap.size (w4.setCell ⟨w.heap.size, 33, none⟩ (.int .i64 m)) q v4 [] false) := Lib.hid (R4.out.kept oa (by omega) (fun k hk e => by have := HV4.out k hk; omega))
  have HO5 : Hid (Only (fun k => k = rb) w (w4.setCell ⟨w.heap.size, 33, none⟩ (.int .i64 m))) := Lib.hid (HO4.out.trans oa (fun _ e => e) (fun k hk e => by subst e; omega))
  have ob : Only (fun k => k = rb) (w4.setCell ⟨w.heap.size, 33, none⟩ (.int .i64 m)) ((w4.setCell ⟨w.heap.size, 33, none⟩ (.int .i64 m)).setCell ⟨rb, 1, none⟩ (.int .i64 ((n + 1 : Nat) : Int))) := Only.setCell (S := fun k => k = rb) (Only.refl _ _) (p := ⟨rb, 1, none⟩) rfl _
  have c1 := HB5.out.c1
  have f1 : (w4.setCell ⟨w.heap.size, 33, none⟩ (.int .i64 m)).frozen? ⟨rb, 1, none⟩ = false := by have := HB5.out; unfold RB at this; simp [World.frozen?, this]
  have HB6 := Lib.hid (HB5.out.set (n + 1))
  have HK6 := Lib.hid ((ob.block w.heap.size (Array.getElem?_eq_some_iff.1 HK5.out).1 (by omega)).trans HK5.out)
  have R6 := Lib.hid (R5.out.kept ob (by omega) (fun k hk e => by have := HV4.out k hk; omega))
  have HO6 := Lib.hid (HO5.out.trans ob (fun _ e => e) (fun _ _ e => e))
  have n1 : ((n + 1 : Nat) : Int) = (n : Int) + 1 := by omega
  rw [n1] at HB6 HK6 R6 HO6
  clear oa ob
  go_wp2_with fail
  generalize (w4.setCell ⟨w.heap.size, 33, none⟩ (.int .i64 m)).setCell ⟨rb, 1, none⟩ (.int .i64 ((n : Int) + 1)) = w6 at *
  have d33 := nd_33 HH.out HK6.out
  have d1 := HB6.out.c1
  rw [n1] at d1
  have hld6 := nd_load (W := w6) HH.out HK6.out
  have hm0 : decide (m < 0) = false := decide_eq_false (by have := HM.out.1; omega)
  have hn0 : decide ((2000 : Int) < (n : Int) + 1) = false := decide_eq_false (by omega)
  have hlk := Lib.hid (lack_any w0.heap.size w6 q v4 [] false R6.out)
  have hlf := Lib.hid (left_any w0.heap.size w6 q v4 [] false R6.out)
  have hbg := begins_to w6 h p HH.out
  rw [HPF.out] at hbg
  have HBG := Lib.hid hbg
  clear hbg
  go_wp2_with (first
    | (go_at_call 95; refine hlk.out.mono ?_; rintro e w' ⟨rfl, rfl⟩)
    | (go_at_call 96; refine hlf.out.mono ?_; rintro e w' ⟨rfl, rfl⟩)
    | (go_at_call 70; refine HBG.out.mono ?_; rintro e w7 ⟨rfl, b7⟩))
  go_ret
  exact ⟨w.heap.size, rfl, (b7.block w.heap.size (Array.getElem?_eq_some_iff.1 HK6.out).1).trans HK6.out, Nat.le_refl _, (b7.block rb HB6.out.lt).trans HB6.out, HO6.out.trans (Only.of_below (S := fun _ => False) b7) (fun _ e => e) (fun _ _ e => e.elim)⟩
end Go.Proofs.YtbpccbhlggcmfaaGreatDoor
namespace Go.Proofs.YtbpccbhlggcmfaaGreatDoor
open Go.RowKit

/-- A tree without its blocks. -/
def Nd.er : Nd → Nd
  | .none => .none
  | .leaf _ h m => .leaf 0 h m
  | .fork _ _ ws => .fork 0 0 fun i => (ws i).er
theorem er_ents : ∀ t : Nd, t.er.ents = t.ents
  | .none => rfl
  | .leaf _ _ _ => rfl
  | .fork _ _ ws => by
    show (fins.flatMap fun i => (ws i).er.ents) = fins.flatMap fun i => (ws i).ents
    exact congrArg (fun f => fins.flatMap f) (funext fun i => er_ents (ws i))
theorem er_wf : ∀ (t : Nd) (p : List UInt8), t.er.Wf p ↔ t.Wf p
  | .none, _ => Iff.rfl
  | .leaf _ _ _, _ => Iff.rfl
  | .fork b g ws, p => by
    have h1 := er_ents (.fork b g ws)
    show (p.length < 64 ∧ (∀ i, (ws i).er.Wf (p ++ [dg i])) ∧ 2 ≤ (Nd.fork b g ws).er.ents.length) ↔ (p.length < 64 ∧ (∀ i, (ws i).Wf (p ++ [dg i])) ∧ 2 ≤ (Nd.fork b g ws).ents.length)
    rw [h1]
    exact ⟨fun h => ⟨h.1, fun i => (er_wf (ws i) _).1 (h.2.1 i), h.2.2⟩, fun h => ⟨h.1, fun i => (er_wf (ws i) _).2 (h.2.1 i), h.2.2⟩⟩
theorem er_num : ∀ t : Nd, t.er.Num ↔ t.Num
  | .none => Iff.rfl
  | .leaf _ _ _ => Iff.rfl
  | .fork _ _ ws => ⟨fun h i => (er_num (ws i)).1 (h i), fun h i => (er_num (ws i)).2 (h i)⟩
theorem er_none {t : Nd} : t.er = .none ↔ t = .none := by
  cases t <;> simp [Nd.er]
section
variable {t t' : Nd} (h : t'.er = t.er)
include h
theorem er_ents' : t'.ents = t.ents := by rw [← er_ents t', h, er_ents]
theorem er_wf' {p : List UInt8} (hw : t.Wf p) : t'.Wf p := (er_wf t' p).1 (by rw [h]; exact (er_wf t p).2 hw)
theorem er_num' (hn : t.Num) : t'.Num := (er_num t').1 (by rw [h]; exact (er_num t).2 hn)
theorem er_none' : t' = .none ↔ t = .none := by rw [← er_none, h, er_none]
end
/-- t was loaded anew as t'. -/
structure LdC (W : World) (σ ρ : Nat → Nat) (R : List (Int × List Int)) (t' t : Nd) : Prop where
  ta : TA W σ t'
  er : t'.er = t.er
  rc : t'.rec' σ = t.rec' ρ
  sep : t'.Sep
  sv : t'.Sv σ R
section
variable {W W' : World} {σ σ' ρ : Nat → Nat} {R : List (Int × List Int)} {t t' : Nd}
theorem LdC.none : LdC W σ ρ R .none .none := ⟨trivial, rfl, rfl, trivial, trivial⟩
theorem LdC.kept (h : LdC W σ ρ R t' t) {S : Nat → Prop} (ho : Only S W W') (hS : ∀ k, t'.Bl k → ¬ S k) (hσ : ∀ k, t'.Bl k → σ' k = σ k) : LdC W' σ' ρ R t' t :=
  ⟨h.ta.agree (fun k hk => ho.block k (h.ta.lt k hk) (hS k hk)) hσ, h.er, (rec_agree hσ).trans h.rc, h.sep, sv_agree hσ h.sv⟩
/-- All ways are loaded: the fork is. -/
theorem LdC.fork {b g b' g' num : Nat} {cs ws : Fin 16 → Nd} (hc : ∀ i, LdC W σ ρ R (cs i) (ws i)) (hb : W.heap[b']? = some (.cells (nv num hz 0 (some g')) 91 (0, 0))) (hg : W.heap[g']? = some (.cells (pvs cs) 168 (0, 0)))
    (hn : num = ρ b) (hσ : σ b' = num) (hne : b' ≠ g') (hbl : ∀ i, ¬ (cs i).Bl b' ∧ ¬ (cs i).Bl g') (hdis : ∀ i j k, i ≠ j → (cs i).Bl k → ¬ (cs j).Bl k) (hr : R[ρ b - 1]? = some (2, frec ρ ws)) (hlt : ∀ i, (ws i).rec' ρ < ρ b ∧ (ws i ≠ .none → (ws i).rec' ρ ≠ 0)) :
    LdC W σ ρ R (.fork b' g' cs) (.fork b g ws) where
  ta := ⟨by rw [hσ]; exact hb, hg, fun i => (hc i).ta⟩
  er := by
    show Nd.fork 0 0 (fun i => (cs i).er) = Nd.fork 0 0 fun i => (ws i).er
    congr 1
    exact funext fun i => (hc i).er
  rc := by show σ b' = ρ b; rw [hσ, hn]
  sep := ⟨hne, fun i => ⟨(hbl i).1, (hbl i).2, (hc i).sep⟩, hdis⟩
  sv := by
    have hf : frec σ cs = frec ρ ws := by
      unfold frec
      exact congrArg (fun f => fins.flatMap f) (funext fun i => by rw [(hc i).rc])
    refine ⟨fun i => (hc i).sv, fun _ => ?_⟩
    rw [hσ, hn, hf]
    exact ⟨hr, fun i => by rw [(hc i).rc]; exact ⟨(hlt i).1, fun h => (hlt i).2 fun e => h ((er_none' (hc i).er).2 e)⟩⟩
end
/-- The ways below k. -/
def wup (ws : Fin 16 → Nd) (k : Nat) : Fin 16 → Nd := fun i => if i.val < k then ws i else .none
theorem wup_0 (ws : Fin 16 → Nd) : wup ws 0 = fun _ => .none := funext fun i => if_neg (by omega)
theorem wup_16 (ws : Fin 16 → Nd) : wup ws 16 = ws := funext fun i => if_pos i.isLt
theorem wup_at (ws : Fin 16 → Nd) {k : Nat} (h : k < 16) : wup ws k ⟨k, h⟩ = .none := if_neg (by simp)
theorem wup_succ (ws : Fin 16 → Nd) {k : Nat} (h : k < 16) : wup ws (k + 1) = upw (wup ws k) ⟨k, h⟩ (ws ⟨k, h⟩) := funext fun i => by
  by_cases e : i = ⟨k, h⟩
  · subst e
    rw [upw_same]
    exact if_pos (by simp)
  · rw [upw_other _ _ e]
    have : i.val ≠ k := fun e2 => e (Fin.ext e2)
    unfold wup
    by_cases h2 : i.val < k
    · rw [if_pos h2, if_pos (by omega)]
    · rw [if_neg h2, if_neg (by omega)]
theorem wup_len (ws : Fin 16 → Nd) {k : Nat} (h : k < 16) : (Nd.fork 0 0 (wup ws (k + 1))).ents.length = (Nd.fork 0 0 (wup ws k)).ents.length + (ws ⟨k, h⟩).ents.length := by
  have := fork_len 0 0 0 0 (wup ws k) ⟨k, h⟩ (ws ⟨k, h⟩)
  rw [wup_at ws h, ← wup_succ ws h] at this
  simpa [Nd.ents] using this
theorem wup_none (ws : Fin 16 → Nd) {k : Nat} (h : k < 16) (h0 : ws ⟨k, h⟩ = .none) : wup ws (k + 1) = wup ws k := by
  rw [wup_succ ws h, h0]
  funext i
  by_cases e : i = ⟨k, h⟩
  · subst e; rw [upw_same, wup_at]
  · rw [upw_other _ _ e]
theorem wup_le (b g : Nat) (ws : Fin 16 → Nd) {k : Nat} (h : k < 16) : (Nd.fork 0 0 (wup ws k)).ents.length + (ws ⟨k, h⟩).ents.length ≤ (Nd.fork b g ws).ents.length := by
  have key : ∀ L : List (Fin 16), (L.flatMap fun i => (wup ws (k + 1) i).ents).length ≤ (L.flatMap fun i => (ws i).ents).length := by
    intro L
    induction L with
    | nil => simp
    | cons i L ih =>
      simp only [List.flatMap_cons, List.length_append]
      have : (wup ws (k + 1) i).ents.length ≤ (ws i).ents.length := by
        unfold wup
        split
        · exact Nat.le_refl _
        · exact Nat.zero_le _
      omega
  rw [← wup_len ws h]
  exact key fins
/-- What loading does. -/
def LdPost (w : World) (rb l n : Nat) (R : List (Int × List Int)) (ρ σ0 : Nat → Nat) (t : Nd) (e : Ending) (W : World) : Prop :=
  ∃ t' σ, e = .returned (ptr t') ∧ LdC W σ ρ R t' t ∧ (∀ k, t'.Bl k → w.heap.size ≤ k) ∧ (∀ k, ¬ t'.Bl k → σ k = σ0 k) ∧ RB W rb l (n + t.ents.length) ∧ Only (fun k => k = rb) w W
end Go.Proofs.YtbpccbhlggcmfaaGreatDoor
