/- A node is loaded from its record. No condition. · A fork is loaded from its record. Condition: what lies below it is. · Load: a tree that was saved is loaded as it was; what is no record is refused. No condition. -/
import Derived.Test.YtbpccbhlggcmfaaGreatDoorRadLe
namespace Go.Proofs.YtbpccbhlggcmfaaGreatDoor
open Go.RowKit
open Go.Maps
attribute [local go_sem ↓] hld_open heq_open hne_open ald_open

theorem recR_at {R : List Rc} {k : Nat} {r : Rc} (h : R[k]? = some r) : recR R (k : Int) = (r.1, r.2, true) := by
  have hl := (List.getElem?_eq_some_iff.1 h).1
  unfold recR
  rw [if_neg (by omega), Int.toNat_natCast, h]
set_option maxRecDepth 20000 in
set_option maxHeartbeats 4000000 in
theorem node_leaf (w : World) (B d l rb n num : Nat) (S : Nat → Prop) (s : St) (nm : Key) (R : List Rc) (h : List UInt8) (m : Int) (p : List UInt8) (hd : DL w B d l S s nm R) (hb : RB w rb l n) (hh : h.length = 32) (hm : 0 ≤ m ∧ m ≤ 1000000) (hn : n + 1 ≤ 2000)
    (h0 : num ≠ 0) (hbig : num < 1000000000) (hr : R[num - 1]? = some (1, lrec h m)) (hp : p <+: tx h) :
    Calls Tryz.prog 39 #[.pointer (some ⟨rb, 0, none⟩), .int .i64 num, .string ⟨p.toArray⟩] w (SgPost w rb l n num h m) := by
  have c0 := hb.c0
  obtain ⟨j, hj⟩ : ∃ j : Int, j = num - 1 := ⟨_, rfl⟩
  have hrec := record_dl w B d l S s nm R j hd
  unfold RecPost at hrec
  rw [show recR R j = (1, lrec h m, true) from by rw [hj, show (num : Int) - 1 = ((num - 1 : Nat) : Int) from by omega]; exact recR_at hr] at hrec
  have HREC := Lib.hid hrec
  have hj1 : (num : Int) - 1 = j := hj.symm
  have HSG : Hid (∀ w1 v, Below w.heap.size w w1 → BOwn w1 w.heap.size v (lrec h m) → Calls Tryz.prog 73 #[.pointer (some ⟨rb, 0, none⟩), .int .i64 num, v, .string ⟨p.toArray⟩] w1 (SgPost w1 rb l n num h m)) := Lib.hid fun w1 v b1 ho => single_to w1 rb l n num h m v p ((b1.block rb hb.lt).trans hb) hh hm hn (Seen.own ho) hp
  have HJ : Hid (-9223372036854775808 ≤ j ∧ j < 9223372036854775808) := Lib.hid (by omega)
  clear hd hrec hh hm hr hp hj
  go_enter Tryz.func39, Tryz.ntmps39
  go_wp2_with fail
  refine HREC.out.mono ?_
  rintro e w1 ⟨v, rfl, ow, b1⟩
  have HC := Lib.hid (HSG.out w1 v b1 ow)
  have B1 := Lib.hid b1
  clear ow b1
  go_wp2_with (go_at_call 73; refine HC.out.mono ?_; rintro e w2 ⟨b, rfl, h1, h2, h3, h4⟩)
  go_ret
  exact ⟨b, rfl, h1, Nat.le_trans B1.out.size h2, h3, (Only.of_below (S := fun k => k = rb) B1.out).trans h4 (fun _ e => e) (fun _ _ e => e)⟩
theorem LdPost.below {w w1 W : World} {rb l n : Nat} {R : List Rc} {ρ σ0 : Nat → Nat} {t : Nd} {e : Ending} (b1 : Below w.heap.size w w1) (h : LdPost w1 rb l n R ρ σ0 t e W) : LdPost w rb l n R ρ σ0 t e W := by
  obtain ⟨t', σ, h1, h2, h3, h4, h5, h6⟩ := h
  exact ⟨t', σ, h1, h2, fun k hk => Nat.le_trans b1.size (h3 k hk), h4, h5, (Only.of_below (S := fun k => k = rb) b1).trans h6 (fun _ e => e) (fun _ _ e => e)⟩
set_option maxRecDepth 20000 in
set_option maxHeartbeats 4000000 in
theorem node_fork (w : World) (B d l rb n num : Nat) (S : Nat → Prop) (s : St) (nm : Key) (R : List Rc) (ρ σ0 : Nat → Nat) (b g : Nat) (ws : Fin 16 → Nd) (p : List UInt8) (hd : DL w B d l S s nm R) (hb : RB w rb l n)
    (h0 : num ≠ 0) (hbig : num < 1000000000) (hr : R[num - 1]? = some (2, frec ρ ws))
    (HF : ∀ w1 v, Below w.heap.size w w1 → BOwn w1 w.heap.size v (frec ρ ws) → Calls Tryz.prog 74 #[.pointer (some ⟨rb, 0, none⟩), .int .i64 num, v, .string ⟨p.toArray⟩] w1 (LdPost w1 rb l n R ρ σ0 (.fork b g ws))) :
    Calls Tryz.prog 39 #[.pointer (some ⟨rb, 0, none⟩), .int .i64 num, .string ⟨p.toArray⟩] w (LdPost w rb l n R ρ σ0 (.fork b g ws)) := by
  have c0 := hb.c0
  obtain ⟨j, hj⟩ : ∃ j : Int, j = num - 1 := ⟨_, rfl⟩
  have hrec := record_dl w B d l S s nm R j hd
  unfold RecPost at hrec
  rw [show recR R j = (2, frec ρ ws, true) from by rw [hj, show (num : Int) - 1 = ((num - 1 : Nat) : Int) from by omega]; exact recR_at hr] at hrec
  have HREC := Lib.hid hrec
  have hj1 : (num : Int) - 1 = j := hj.symm
  have HFF := Lib.hid HF
  have HJ : Hid (-9223372036854775808 ≤ j ∧ j < 9223372036854775808) := Lib.hid (by omega)
  clear hd hrec hr hj HF
  go_enter Tryz.func39, Tryz.ntmps39
  go_wp2_with fail
  refine HREC.out.mono ?_
  rintro e w1 ⟨v, rfl, ow, b1⟩
  have HC := Lib.hid ((HFF.out w1 v b1 ow).mono fun e W h => h.below b1)
  clear ow b1
  go_wp2_with (go_at_call 74; refine HC.out.mono ?_; rintro e w2 ⟨t', σ, rfl, hp⟩; have HP := Lib.hid hp; clear hp)
  go_ret
  exact ⟨t', σ, rfl, HP.out⟩
end Go.Proofs.YtbpccbhlggcmfaaGreatDoor
namespace Go.Proofs.YtbpccbhlggcmfaaGreatDoor
open Go.RowKit
open Go.Maps
attribute [local go_sem ↓] hld_open heq_open hne_open ald_open

def azer : Array Value := #[.int .i64 0, .int .i64 0, .int .i64 0, .int .i64 0, .int .i64 0, .int .i64 0, .int .i64 0, .int .i64 0, .int .i64 0, .int .i64 0, .int .i64 0, .int .i64 0, .int .i64 0, .int .i64 0, .int .i64 0, .int .i64 0]
theorem ast_cells (q : Array Value) (hs : q.size = 16) (h1 : q.all (·.oneCell') = true) (w : World) : (storeCells ⟨w.heap.size, 0, none⟩ q.toList).run Tryz.prog (w.alloc (.cells #[.int .i64 0, .int .i64 0, .int .i64 0, .int .i64 0, .int .i64 0, .int .i64 0, .int .i64 0, .int .i64 0, .int .i64 0, .int .i64 0, .int .i64 0, .int .i64 0, .int .i64 0, .int .i64 0, .int .i64 0, .int .i64 0] 171)) = .ok () (w.alloc (.cells q 171)) :=
  run_storeCells_new (P := Tryz.prog) w 171 azer q (arrinfo q hs) (by rw [hs]; rfl) h1
theorem nb3 (k : Int) (a : Nat) : Tryz.prog.built 91 [(0, .int .i64 k), (3, .pointer (some ⟨a, 0, none⟩))] = some (([.int .i64 k] ++ us (nmb hz) ++ [.int .i64 0, gptr (some a)] : List Value).toArray) := by rw [nfill]; rfl
theorem ald_row {W : World} {a : Nat} {q : Array Value} (hs : q.size = 16) (h : W.heap[a]? = some (.cells q 171 (0, 0))) : (ald ⟨a, 0, none⟩).run Tryz.prog W = .ok (.agg q) W := by
  exact run_loadVar_mid (P := Tryz.prog) W a 0 171 q.toList _ (range_row h) Tryz.underlying171 rfl (by have := arrinfo q hs; rwa [← Array.length_toList] at this)
set_option linter.unusedSimpArgs false in
theorem index_row16 (ρ : Nat → Nat) (ws : Fin 16 → Nd) (k : Nat) (hk : k < 16) (w : World) : (Instr.index 171 (.agg (rrow9 ρ ws 16).toArray) (.int .i64 k)).run Tryz.prog w = .ok (.int .i64 ((ws ⟨k, hk⟩).rec' ρ : Int)) w := by
  have hl := rrow9_length ρ ws 16 (Nat.le_refl _)
  have hg : (rrow9 ρ ws 16)[k]? = some (.int .i64 ((ws ⟨k, hk⟩).rec' ρ : Int)) := by
    have := recl_at ρ ws ⟨k, hk⟩
    have h2 := recl_length ρ ws
    unfold rrow9
    rw [List.take_of_length_le (by omega), Nat.sub_self, List.replicate_zero, List.append_nil, List.getElem?_map, this]
    rfl
  have hsz : (rrow9 ρ ws 16).toArray.size = 16 := by simpa using hl
  have hget : (rrow9 ρ ws 16).toArray.getD k undef = .int .i64 ((ws ⟨k, hk⟩).rec' ρ : Int) := by
    rw [Array.getD_eq_getD_getElem?, List.getElem?_toArray, hg]; rfl
  generalize (rrow9 ρ ws 16).toArray = q at *
  have h1 : ((k : Nat) : Int) < 16 := by omega
  have h0 : (0 : Int) ≤ k := by omega
  have hkq : k < q.size := by omega
  have := hget
  simp [Instr.index, asIntOf, run_underlying Tryz.underlying171, h0, h1, part, go_sem, hkq, hk] at this ⊢
  exact this
theorem digs16 : ∀ k : Fin 16, ({ data := #[48, 49, 50, 51, 52, 53, 54, 55, 56, 57, 97, 98, 99, 100, 101, 102] } : ByteArray).extract k.val (k.val + 1) = ⟨#[dg k.val]⟩ := by decide
theorem cat1 (p : List UInt8) (d : UInt8) : (⟨p.toArray⟩ : ByteArray) ++ ⟨#[d]⟩ = ⟨(p ++ [d]).toArray⟩ := by
  apply ByteArray.ext
  simp [ByteArray.data_append]
/-- The loop over the ways. -/
structure FkI (w W : World) (rb l n num z : Nat) (R : List Rc) (ρ σ0 : Nat → Nat) (ws cs : Fin 16 → Nd) (σ : Nat → Nat) (k : Nat) : Prop where
  lw : rb < w.heap.size
  lz : w.heap.size ≤ z
  kb : W.heap[z + 1 + 1]? = some (.cells (nv num hz 0 (some (z + 1))) 91 (0, 0))
  kg : W.heap[z + 1]? = some (.cells (pvs cs) 168 (0, 0))
  ch : ∀ i, LdC W σ ρ R (cs i) (wup ws k i)
  ge : ∀ i m, (cs i).Bl m → z + 3 ≤ m
  dis : ∀ i j m, i ≠ j → (cs i).Bl m → ¬ (cs j).Bl m
  off : ∀ m, (∀ i, ¬ (cs i).Bl m) → σ m = upn σ0 (z + 1 + 1) num m
  rd : RB W rb l (n + (Nd.fork 0 0 (wup ws k)).ents.length)
  only : Only (fun j => j = rb) w W
section
variable {w W W' : World} {rb l n num z k : Nat} {R : List Rc} {ρ σ0 σ : Nat → Nat} {ws cs : Fin 16 → Nd}
theorem FkI.start (lw : rb < w.heap.size) (lz : w.heap.size ≤ z) (kb : W.heap[z + 1 + 1]? = some (.cells (nv num hz 0 (some (z + 1))) 91 (0, 0))) (kg : W.heap[z + 1]? = some (.cells (pvs fun _ => .none) 168 (0, 0)))
    (hr : RB W rb l n) (ho : Only (fun j => j = rb) w W) : FkI w W rb l n num z R ρ σ0 ws (fun _ => .none) (upn σ0 (z + 1 + 1) num) 0 where
  lw := lw
  lz := lz
  kb := kb
  kg := kg
  ch i := by rw [wup_0]; exact LdC.none
  ge _ _ h := h.elim
  dis _ _ _ _ h := h.elim
  off _ _ := rfl
  rd := by
    rw [wup_0]
    have : (Nd.fork 0 0 fun _ => .none).ents.length = 0 := by
      have h1 : (Nd.fork 0 0 fun _ => .none).ents = [] := by
        show (fins.flatMap fun _ => []) = []
        simp
      rw [h1]; rfl
    rw [this]; exact hr
  only := ho
theorem FkI.skip (h : FkI w W rb l n num z R ρ σ0 ws cs σ k) (hk : k < 16) (h0 : ws ⟨k, hk⟩ = .none) : FkI w W rb l n num z R ρ σ0 ws cs σ (k + 1) :=
  { h with ch := by rw [wup_none ws hk h0]; exact h.ch, rd := by rw [wup_none ws hk h0]; exact h.rd }
theorem FkI.drew (h : FkI w W rb l n num z R ρ σ0 ws cs σ k) : FkI w W.drew rb l n num z R ρ σ0 ws cs σ k :=
  { h with kb := h.kb, kg := h.kg, ch := fun i => (h.ch i).kept (S := fun _ => False) ((Only.refl _ W).drew) (fun _ _ e => e) (fun _ _ => rfl), rd := h.rd, only := h.only.drew }
/-- A way is loaded and stored. -/
theorem FkI.next (h : FkI w W rb l n num z R ρ σ0 ws cs σ k) (hk : k < 16) {t' : Nd} {σ' : Nat → Nat} (hc : LdC W' σ' ρ R t' (ws ⟨k, hk⟩)) (hge : ∀ m, t'.Bl m → W.heap.size ≤ m) (hσ : ∀ m, ¬ t'.Bl m → σ' m = σ m)
    (hr : RB W' rb l (n + (Nd.fork 0 0 (wup ws k)).ents.length + (ws ⟨k, hk⟩).ents.length)) (ho : Only (fun j => j = rb) W W') : FkI w (W'.setCell ⟨z + 1, k, none⟩ (ptr t')) rb l n num z R ρ σ0 ws (upw cs ⟨k, hk⟩ t') σ' (k + 1) := by
  have hlw := h.lw
  have hlz := h.lz
  have hbl := (Array.getElem?_eq_some_iff.1 h.kb).1
  have o2 : Only (fun j => j = z + 1) W' (W'.setCell ⟨z + 1, k, none⟩ (ptr t')) := Only.setCell (S := fun j => j = z + 1) (Only.refl _ W') (p := ⟨z + 1, k, none⟩) rfl _
  have kb' := (ho.block (z + 1 + 1) hbl (by omega)).trans h.kb
  have kg' := (ho.block (z + 1) (by omega) (by omega)).trans h.kg
  have hnb : ∀ i m, (cs i).Bl m → ¬ t'.Bl m := fun i m hm hm' => by
    have h1 := (h.ch i).ta.lt m hm
    have h2 := hge m hm'
    omega
  refine { lw := hlw, lz := hlz, kb := (o2.block (z + 1 + 1) (Array.getElem?_eq_some_iff.1 kb').1 (by omega)).trans kb', kg := set_way kg' ⟨k, hk⟩ t', ch := fun i => ?_, ge := fun i m hm => ?_, dis := fun i j m hij hm => ?_, off := fun m hm => ?_, rd := ?_, only := ?_ }
  · rw [wup_succ ws hk]
    by_cases e : i = ⟨k, hk⟩
    · subst e
      rw [upw_same, upw_same]
      exact hc.kept o2 (fun m hm e => by have := hge m hm; omega) (fun _ _ => rfl)
    · rw [upw_other _ _ e, upw_other _ _ e]
      refine ((h.ch i).kept (σ' := σ') ho (fun m hm e => by have := h.ge i m hm; omega) (fun m hm => hσ m (hnb i m hm))).kept o2 (fun m hm e => by have := h.ge i m hm; omega) (fun _ _ => rfl)
  · by_cases e : i = ⟨k, hk⟩
    · subst e
      rw [upw_same] at hm
      have := hge m hm; omega
    · rw [upw_other _ _ e] at hm
      exact h.ge i m hm
  · by_cases e : i = ⟨k, hk⟩
    · subst e
      rw [upw_same] at hm
      rw [upw_other _ _ (Ne.symm hij)]
      exact fun hm' => hnb j m hm' hm
    · rw [upw_other _ _ e] at hm
      by_cases e2 : j = ⟨k, hk⟩
      · subst e2
        rw [upw_same]; exact hnb i m hm
      · rw [upw_other _ _ e2]; exact h.dis i j m hij hm
  · have h1 := hm ⟨k, hk⟩
    rw [upw_same] at h1
    rw [hσ m h1]
    refine h.off m (fun i hi => ?_)
    by_cases e : i = ⟨k, hk⟩
    · subst e
      have := wup_at ws hk
      have h2 := (h.ch ⟨k, hk⟩).er
      rw [this] at h2
      have h3 : cs ⟨k, hk⟩ = .none := (er_none' h2).2 rfl
      rw [h3] at hi
      exact hi.elim
    · have := hm i
      rw [upw_other _ _ e] at this
      exact this hi
  · rw [wup_len ws hk, ← Nat.add_assoc]
    exact (o2.block rb hr.lt (by omega)).trans hr
  · exact (h.only.trans ho (fun _ e => e) (fun _ _ e => e)).trans o2 (fun _ e => e) (fun j hj e => by subst e; omega)
/-- All is loaded. -/
theorem FkI.all {b g : Nat} (h : FkI w W rb l n num z R ρ σ0 ws cs σ 16) (hn : num = ρ b) (hr : R[ρ b - 1]? = some (2, frec ρ ws)) (hlt : ∀ i, (ws i).rec' ρ < ρ b ∧ (ws i ≠ .none → (ws i).rec' ρ ≠ 0)) :
    LdPost w rb l n R ρ σ0 (.fork b g ws) (.returned (.pointer (some ⟨z + 1 + 1, 0, none⟩))) W := by
  have hlz := h.lz
  have hrb := h.rd
  have hch := h.ch
  rw [wup_16] at hrb hch
  have hs : σ (z + 1 + 1) = num := by
    rw [h.off (z + 1 + 1) (fun i hi => by have := h.ge i _ hi; omega), upn_same]
  refine ⟨.fork (z + 1 + 1) (z + 1) cs, σ, rfl, LdC.fork hch h.kb h.kg hn hs (by omega) (fun i => ⟨fun hi => by have := h.ge i _ hi; omega, fun hi => by have := h.ge i _ hi; omega⟩) h.dis hr hlt, fun m hm => ?_, fun m hm => ?_, hrb, h.only⟩
  · rcases hm with rfl | rfl | ⟨i, hi⟩
    · omega
    · omega
    · have := h.ge i m hi; omega
  · rw [h.off m (fun i hi => hm (.inr (.inr ⟨i, hi⟩))), upn_other _ _ (fun e => hm (.inl e))]
end
set_option linter.unusedSimpArgs false in
set_option maxRecDepth 20000 in
set_option maxHeartbeats 8000000 in
theorem fork_to (w : World) (rb l n num : Nat) (R : List Rc) (ρ σ0 : Nat → Nat) (b g : Nat) (ws : Fin 16 → Nd) (p : List UInt8) (v : Value) (hb : RB w rb l n) (hs : Seen w v (frec ρ ws)) (hw : (Nd.fork b g ws).Wf p) (hsv : (Nd.fork b g ws).Sv ρ R)
    (hnum : num = ρ b) (h0 : num ≠ 0) (hbig : num < 1000000000) (hn : n + (Nd.fork b g ws).ents.length ≤ 2000)
    (IH : ∀ (i : Fin 16) (W : World) (n1 : Nat) (σ1 : Nat → Nat), ws i ≠ .none → Only (fun k => k = rb) w W → RB W rb l n1 → n1 + (ws i).ents.length ≤ 2000 →
      Calls Tryz.prog 39 #[.pointer (some ⟨rb, 0, none⟩), .int .i64 ((ws i).rec' ρ : Nat), .string ⟨(p ++ [dg i]).toArray⟩] W (LdPost W rb l n1 R ρ σ1 (ws i))) :
    Calls Tryz.prog 74 #[.pointer (some ⟨rb, 0, none⟩), .int .i64 num, v, .string ⟨p.toArray⟩] w (LdPost w rb l n R ρ σ0 (.fork b g ws)) := by
  have HSV := Lib.hid (hsv.2 (by rw [← hnum]; exact h0))
  have HDE := Lib.hid (decode_to9 w ρ num ws v hs (fun i => by rw [hnum]; exact ((hsv.2 (by rw [← hnum]; exact h0)).2 i).1) hbig)
  have HB := Lib.hid hb
  have HIH := Lib.hid IH
  have HN := Lib.hid hn
  have hp64 : p.length ≠ 64 := by have := hw.1; omega
  have hdp : decide ((p.length : Int) = 64) = false := decide_eq_false (by omega)
  have hpl : p.length ≤ 9223372036854775806 := by have := hw.1; omega
  have HTWO := Lib.hid hw.2.2
  have HNUM := Lib.hid hnum
  have HIX := Lib.hid (index_row16 ρ ws)
  have hrs : (rrow9 ρ ws 16).toArray.size = 16 := by simpa using rrow9_length ρ ws 16 (Nat.le_refl _)
  have hro := rrow9_one ρ ws 16
  unfold DePost at HDE
  obtain ⟨ra, hra⟩ : ∃ ra, ra = (rrow9 ρ ws 16).toArray := ⟨_, rfl⟩
  rw [← hra] at HDE HIX hrs hro
  have AST := Lib.hid (ast_cells ra hrs hro)
  obtain ⟨x0, hx0⟩ : ∃ x : Nat → Array Value, x = fun a => nv num hz 0 (some a) := ⟨_, rfl⟩
  have hbu : ∀ a, Tryz.prog.built 91 [(0, .int .i64 num), (3, .pointer (some ⟨a, 0, none⟩))] = some (x0 a) := fun a => by rw [hx0]; exact nb3 num a
  have HX0 := Lib.hid hx0
  have HBU := Lib.hid hbu
  have HRS := Lib.hid hrs
  clear hb hs hw hsv IH hn hnum hra hx0 hbu hro
  go_enter Tryz.func74, Tryz.ntmps74
  go_wp2_with fail
  refine HDE.out.mono ?_
  rintro e w1 ⟨rfl, b1⟩
  have B1 := Lib.hid b1
  have hst := AST.out w1
  clear b1
  have hz1 : (w1.alloc (.cells ra 171)).heap.size = w1.heap.size + 1 := by simp
  have hz2 : ((w1.alloc (.cells ra 171)).alloc (.cells (pvs fun _ => .none) 168)).heap.size = w1.heap.size + 2 := by simp
  have W3B : Hid (Below w1.heap.size w1 (((w1.alloc (.cells ra 171)).alloc (.cells (pvs fun _ => .none) 168)).alloc (.cells (x0 (w1.heap.size + 1)) 91))) := Lib.hid ((((Below.refl w1.heap.size w1).alloc (Nat.le_refl _) _).alloc (by omega) _).alloc (by omega) _)
  have W3K : Hid ((((w1.alloc (.cells ra 171)).alloc (.cells (pvs fun _ => .none) 168)).alloc (.cells (x0 (w1.heap.size + 1)) 91)).heap[w1.heap.size + 2]? = some (.cells (x0 (w1.heap.size + 1)) 91 (0, 0))) := Lib.hid (by
    have := heap_alloc_last ((w1.alloc (.cells ra 171)).alloc (.cells (pvs fun _ => .none) 168)) (.cells (x0 (w1.heap.size + 1)) 91)
    rwa [hz2] at this)
  have W3G : Hid ((((w1.alloc (.cells ra 171)).alloc (.cells (pvs fun _ => .none) 168)).alloc (.cells (x0 (w1.heap.size + 1)) 91)).heap[w1.heap.size + 1]? = some (.cells (pvs fun _ => .none) 168 (0, 0))) := Lib.hid (by
    rw [Below.heap_alloc _ _ _ (by omega)]
    have := heap_alloc_last (w1.alloc (.cells ra 171)) (.cells (pvs fun _ => .none) 168)
    rwa [hz1] at this)
  have W3A : Hid ((((w1.alloc (.cells ra 171)).alloc (.cells (pvs fun _ => .none) 168)).alloc (.cells (x0 (w1.heap.size + 1)) 91)).heap[w1.heap.size]? = some (.cells ra 171 (0, 0))) := Lib.hid (by
    rw [Below.heap_alloc _ _ _ (by omega), Below.heap_alloc _ _ _ (by omega)]
    exact heap_alloc_last w1 _)
  have W3R : Hid (RB (((w1.alloc (.cells ra 171)).alloc (.cells (pvs fun _ => .none) 168)).alloc (.cells (x0 (w1.heap.size + 1)) 91)) rb l n) := Lib.hid ((W3B.out.block rb (by have := HB.out.lt; have := B1.out.size; omega)).trans ((B1.out.block rb HB.out.lt).trans HB.out))
  have W3Z : Hid ((((w1.alloc (.cells ra 171)).alloc (.cells (pvs fun _ => .none) 168)).alloc (.cells (x0 (w1.heap.size + 1)) 91)).heap.size = w1.heap.size + 3) := Lib.hid (by simp)
  have hc1 := W3R.out.c1
  have hal := ald_row hrs W3A.out
  clear hz1 hz2
  rw [pvs_nil] at hc1 hal
  go_wp2_with (refine build_to (vals := #[(0, .int .i64 num), (3, .pointer (some ⟨w1.heap.size + 1, 0, none⟩))]) (HBU.out _) ?hv ?_; (case hv => simp [Act.eval]))
  rw [← pvs_nil]
  have F0 : Hid (FkI w _ rb l n num w1.heap.size R ρ σ0 ws (fun _ => .none) (upn σ0 (w1.heap.size + 1 + 1) num) 0) := Lib.hid (FkI.start HB.out.lt B1.out.size (by rw [W3K.out, HX0.out]) W3G.out W3R.out (Only.of_below (B1.out.trans (W3B.out.mono B1.out.size))))
  generalize ((w1.alloc (.cells ra 171)).alloc (.cells (pvs fun _ => .none) 168)).alloc (.cells (x0 (w1.heap.size + 1)) 91) = w3 at *
  clear hst hc1 hal W3B W3K W3G W3A W3R W3Z AST HBU HX0
  generalize w1.heap.size = z at *
  go_loopw [37] (fun i wr => ∃ (k : Nat) (cs : Fin 16 → Nd) (σ : Nat → Nat), k ≤ 16 ∧ i = .int .i64 k ∧ Hid (FkI w wr rb l n num z R ρ σ0 ws cs σ k)) (fun i _ => 16 - (intOf i).toNat)
  case atStart => exact ⟨0, _, _, by omega, rfl, F0⟩
  case round =>
    obtain ⟨k, cs, σ, hk, rfl, HF⟩ := hrel
    by_cases hlt : k < 16
    · have hdc : decide ((k : Int) < 16) = true := decide_eq_true (by omega)
      have hix := HIX.out k hlt wr
      have HWS := Lib.hid (HSV.out.2 ⟨k, hlt⟩).2
      have HSK := Lib.hid (fun h => FkI.skip HF.out hlt h)
      have HRW : Hid (ws ⟨k, hlt⟩ = .none → (ws ⟨k, hlt⟩).rec' ρ = 0) := Lib.hid fun h => by rw [h]; rfl
      have HIK := Lib.hid (HIH.out ⟨k, hlt⟩)
      obtain ⟨r, hr⟩ : ∃ r, r = (ws ⟨k, hlt⟩).rec' ρ := ⟨_, rfl⟩
      rw [← hr] at hix HWS HRW HIK
      clear hr
      by_cases hr0 : r = 0
      · subst hr0
        have hno : ws ⟨k, hlt⟩ = .none := Classical.byContradiction fun h => HWS.out h rfl
        have HS1 := Lib.hid (HSK.out hno)
        clear hno
        go_wp2_with fail
        go_round
        case rel => exact ⟨k + 1, cs, σ, by omega, by go_num, HS1⟩
        case measure => simp [intOf]; omega
      · have hd1 : decide ((r : Int) = 0) = false := decide_eq_false (by omega)
        have hne : Hid (ws ⟨k, hlt⟩ ≠ .none) := Lib.hid fun h => hr0 (HRW.out h)
        go_wp2_with fail
        have c34 := nd_34 (W := wr) hz_len HF.out.kb
        simp only [gptr] at c34
        have hk16 : ((k : Nat) : Int) < 16 := by omega
        have HF1 := Lib.hid HF.out.drew
        have HCK := Lib.hid (HIK.out wr.drew (n + (Nd.fork 0 0 (wup ws k)).ents.length) σ hne.out HF1.out.only HF1.out.rd (by have := wup_le b g ws hlt; have := HN.out; omega))
        obtain ⟨kk, hkk⟩ : ∃ kk, kk = k + 1 := ⟨_, rfl⟩
        have hwk : IntKind.i64.wrap ((k : Int) + 1) = (kk : Int) := by rw [IntKind.wrap_i64]; omega
        have hk1 : (k : Int) ≤ kk := by omega
        have hk2 : (kk : Int) ≤ 16 := by omega
        have hk3 : (0 : Int) ≤ kk := by omega
        have hex : ({ data := #[48, 49, 50, 51, 52, 53, 54, 55, 56, 57, 97, 98, 99, 100, 101, 102] } : ByteArray).extract k kk = ⟨#[dg k]⟩ := by rw [hkk]; exact digs16 ⟨k, hlt⟩
        have hcat : (⟨p.toArray⟩ : ByteArray) ++ ⟨#[dg k]⟩ = ⟨(p ++ [dg k]).toArray⟩ := cat1 p (dg k)
        have HCC := Lib.hid hkk
        clear hkk
        generalize dg k = dgk at *
        try simp only [List.append]
        refine wp_region_noPanic ?_
        refine wp_region_held_drew (S := (fun W => W.cell? ⟨z + 1 + 1, 34, none⟩ = some (.pointer (some ⟨z + 1, 0, none⟩)))) (by kernel_rfl) c34 (fun hHeld => ?_)
        refine wpAnyH_take (i := 0) (v := ?_) (by simp only [List.getElem?_toArray, List.getElem?_cons_zero]; rfl) (by kernel_rfl) (by kernel_rfl) (by kernel_rfl) (fun _ _ _ h => h) (Or.inl ⟨by rfl, ?_⟩) (by assumption) ?_
        rotate_left
        · intro w hSw
          try dsimp only at hSw
          go_simp
          try with_reducible rfl
        try simp only [Act.put, List.setIfInBounds_toArray, List.set_cons_zero, List.set_cons_succ]
        refine wpAnyH_take (i := 1) (v := ?_) (by simp only [List.getElem?_toArray, List.getElem?_cons_succ, List.getElem?_cons_zero]; rfl) (by kernel_rfl) (by kernel_rfl) (by kernel_rfl) (fun _ _ _ h => h) (Or.inl ⟨by rfl, ?_⟩) (by assumption) ?_
        rotate_left
        · intro w hSw
          try dsimp only at hSw
          go_simp
          try with_reducible rfl
        try simp only [Act.put, List.setIfInBounds_toArray, List.set_cons_zero, List.set_cons_succ]
        refine wpAnyH_take (i := 2) (v := ?_) (by simp only [List.getElem?_toArray, List.getElem?_cons_succ, List.getElem?_cons_zero]; rfl) (by kernel_rfl) (by kernel_rfl) (by kernel_rfl) (fun _ _ _ h => h) (Or.inl ⟨by rfl, ?_⟩) (by assumption) ?_
        rotate_left
        · intro w hSw
          try dsimp only at hSw
          go_simp
          try with_reducible rfl
        try simp only [Act.put, List.setIfInBounds_toArray, List.set_cons_zero, List.set_cons_succ]
        refine wpAnyH_take (i := 3) (v := ?_) (by simp only [List.getElem?_toArray, List.getElem?_cons_succ, List.getElem?_cons_zero]; rfl) (by kernel_rfl) (by kernel_rfl) (by kernel_rfl) (fun _ _ _ h => h) (Or.inl ⟨by rfl, ?_⟩) (by assumption) ?_
        rotate_left
        · intro w hSw
          try dsimp only at hSw
          go_simp
          try with_reducible rfl
        try simp only [Act.put, List.setIfInBounds_toArray, List.set_cons_zero, List.set_cons_succ]
        refine wpAnyH_take (i := 4) (v := ?_) (by simp only [List.getElem?_toArray, List.getElem?_cons_succ, List.getElem?_cons_zero]; rfl) (by kernel_rfl) (by kernel_rfl) (by kernel_rfl) (fun _ _ _ h => h) (Or.inl ⟨by rfl, ?_⟩) (by assumption) ?_
        rotate_left
        · intro w hSw
          try dsimp only at hSw
          go_simp
          try with_reducible rfl
        try simp only [Act.put, List.setIfInBounds_toArray, List.set_cons_zero, List.set_cons_succ]
        refine wpAnyH_take (i := 5) (v := ?_) (by simp only [List.getElem?_toArray, List.getElem?_cons_succ, List.getElem?_cons_zero]; rfl) (by kernel_rfl) (by kernel_rfl) (by kernel_rfl) (fun _ _ _ h => h) (Or.inl ⟨by rfl, ?_⟩) (by assumption) ?_
        rotate_left
        · intro w hSw
          try dsimp only at hSw
          go_simp
          try with_reducible rfl
        try simp only [Act.put, List.setIfInBounds_toArray, List.set_cons_zero, List.set_cons_succ]
        refine wpAnyH_take (i := 6) (v := ?_) (by simp only [List.getElem?_toArray, List.getElem?_cons_succ, List.getElem?_cons_zero]; rfl) (by kernel_rfl) (by kernel_rfl) (by kernel_rfl) (fun _ _ _ h => h) (Or.inl ⟨by rfl, ?_⟩) (by assumption) ?_
        rotate_left
        · intro w hSw
          try dsimp only at hSw
          go_simp
          try with_reducible rfl
        try simp only [Act.put, List.setIfInBounds_toArray, List.set_cons_zero, List.set_cons_succ]
        refine wpAnyH_take (i := 7) (v := ?_) (by simp only [List.getElem?_toArray, List.getElem?_cons_succ, List.getElem?_cons_zero]; rfl) (by kernel_rfl) (by kernel_rfl) (by kernel_rfl) (fun _ _ _ h => h) (Or.inl ⟨by rfl, ?_⟩) (by assumption) ?_
        rotate_left
        · intro w hSw
          try dsimp only at hSw
          go_simp
          try with_reducible rfl
        try simp only [Act.put, List.setIfInBounds_toArray, List.set_cons_zero, List.set_cons_succ]
        refine wpAnyH_take (i := 8) (v := ?_) (by simp only [List.getElem?_toArray, List.getElem?_cons_succ, List.getElem?_cons_zero]; rfl) (by kernel_rfl) (by kernel_rfl) (by kernel_rfl) (fun _ _ _ h => h) (Or.inl ⟨by rfl, ?_⟩) (by assumption) ?_
        rotate_left
        · intro w hSw
          try dsimp only at hSw
          go_simp
          try with_reducible rfl
        try simp only [Act.put, List.setIfInBounds_toArray, List.set_cons_zero, List.set_cons_succ]
        refine wpAnyH_take (i := 9) (v := ?_) (by simp only [List.getElem?_toArray, List.getElem?_cons_succ, List.getElem?_cons_zero]; rfl) (by kernel_rfl) (by kernel_rfl) (by kernel_rfl) (fun _ _ _ h => h) (Or.inl ⟨by rfl, ?_⟩) (by assumption) ?_
        rotate_left
        · intro w hSw
          try dsimp only at hSw
          go_simp
          try with_reducible rfl
        try simp only [Act.put, List.setIfInBounds_toArray, List.set_cons_zero, List.set_cons_succ]
        refine wpAnyH_take (i := 10) (v := (.int .i64 kk)) (by simp only [List.getElem?_toArray, List.getElem?_cons_succ, List.getElem?_cons_zero]; rfl) (by kernel_rfl) (by kernel_rfl) (by kernel_rfl) (fun _ _ _ h => h) (Or.inl ⟨by rfl, ?_⟩) (by assumption) ?_
        · intro w hSw
          try dsimp only at hSw
          go_simp
        try simp only [Act.put, List.setIfInBounds_toArray, List.set_cons_zero, List.set_cons_succ]
        refine wpAnyH_take (i := 11) (v := (.string ⟨#[dgk]⟩)) (by simp only [List.getElem?_toArray, List.getElem?_cons_succ, List.getElem?_cons_zero]; rfl) (by kernel_rfl) (by kernel_rfl) (by kernel_rfl) (fun _ _ _ h => h) (Or.inl ⟨by rfl, ?_⟩) (by assumption) ?_
        · intro w hSw
          try dsimp only at hSw
          go_simp
        try simp only [Act.put, List.setIfInBounds_toArray, List.set_cons_zero, List.set_cons_succ]
        refine wpAnyH_take (i := 12) (v := (.string ⟨(p ++ [dgk]).toArray⟩)) (by simp only [List.getElem?_toArray, List.getElem?_cons_succ, List.getElem?_cons_zero]; rfl) (by kernel_rfl) (by kernel_rfl) (by kernel_rfl) (fun _ _ _ h => h) (Or.inl ⟨by rfl, ?_⟩) (by assumption) ?_
        · intro w hSw
          try dsimp only at hSw
          go_simp
        try simp only [Act.put, List.setIfInBounds_toArray, List.set_cons_zero, List.set_cons_succ]
        refine wpAnyH_take (i := 14) (v := ?_) (by simp only [List.getElem?_toArray, List.getElem?_cons_succ, List.getElem?_cons_zero]; rfl) (by kernel_rfl) (by kernel_rfl) (by kernel_rfl) (fun _ _ _ h => h) (Or.inl ⟨by rfl, ?_⟩) (by assumption) ?_
        rotate_left
        · intro w hSw
          try dsimp only at hSw
          go_simp
          try with_reducible rfl
        try simp only [Act.put, List.setIfInBounds_toArray, List.set_cons_zero, List.set_cons_succ]
        refine wpAnyH_ready (rs := [13]) (by kernel_rfl) (by simp) ?_
        refine AllReadyH.cons (by simp only [List.getElem?_toArray, List.getElem?_cons_succ, List.getElem?_cons_zero]; rfl) (fun K hK => ?_) AllReadyH.nil
        go_simp
        refine HCK.out.mono ?_
        rintro e w5 ⟨t', σ', rfl, hc5, hge5, hσ5, hr5, ho5⟩
        have HNX := Lib.hid (HF1.out.next hlt hc5 hge5 hσ5 hr5 ho5)
        have HG5 : Hid (w5.heap[z + 1]? = some (.cells (pvs cs) 168 (0, 0))) := Lib.hid ((ho5.block (z + 1) (Array.getElem?_eq_some_iff.1 HF1.out.kg).1 (by have := HF1.out.lw; have := HF1.out.lz; omega)).trans HF1.out.kg)
        have HK5 : Hid (w5.heap[z + 1 + 1]? = some (.cells (nv num hz 0 (some (z + 1))) 91 (0, 0))) := Lib.hid ((ho5.block (z + 1 + 1) (Array.getElem?_eq_some_iff.1 HF1.out.kb).1 (by have := HF1.out.lw; have := HF1.out.lz; omega)).trans HF1.out.kb)
        have HNN : Hid (t' ≠ .none) := Lib.hid fun h => hne.out ((er_none' hc5.er).1 h)
        have c5 := nd_34 (W := w5) hz_len HK5.out
        simp only [gptr] at c5
        clear hc5 hge5 hσ5 hr5 ho5
        rw [ptr_pad] at HNX ⊢
        go_simp
        refine hK.out _ _ c5 (fun hHeld => ?_)
        clear hK K
        try simp only [Act.put, List.setIfInBounds_toArray, List.set_cons_zero, List.set_cons_succ]
        refine wpAnyH_take (i := 15) (v := ?_) (by simp only [List.getElem?_toArray, List.getElem?_cons_succ, List.getElem?_cons_zero]; rfl) (by kernel_rfl) (by kernel_rfl) (by kernel_rfl) (fun _ _ _ h => h) (Or.inl ⟨by rfl, ?_⟩) (by assumption) ?_
        rotate_left
        · intro w hSw
          try dsimp only at hSw
          go_simp
          try with_reducible rfl
        try simp only [Act.put, List.setIfInBounds_toArray, List.set_cons_zero, List.set_cons_succ]
        have t3 := way_at HG5.out ⟨k, hlt⟩
        have t4 : w5.frozen? ⟨z + 1, k, none⟩ = false := by simp [World.frozen?, HG5.out]
        rw [ptr_pad] at t3
        have d34 := nd_34 hz_len HNX.out.kb
        have t5 := way_at HNX.out.kg ⟨k, hlt⟩
        rw [upw_same, ptr_pad] at t5
        simp only [gptr] at d34
        refine wpAnyH_ready (rs := [16]) (by kernel_rfl) (by simp) ?_
        refine AllReadyH.cons (by simp only [List.getElem?_toArray, List.getElem?_cons_succ, List.getElem?_cons_zero]; rfl) (fun K hK => ?_) AllReadyH.nil
        go_simp
        refine hK.out _ _ d34 (fun hHeld => ?_)
        clear hK K
        try simp only [Act.put, List.setIfInBounds_toArray, List.set_cons_zero, List.set_cons_succ]
        refine wpAnyH_done (by kernel_rfl) ?_ _
        refine NoPanic.normal ?_
        obtain ⟨pa, hpa⟩ : ∃ pa, pad t' = some pa := by
          cases t' with
          | none => exact absurd rfl HNN.out
          | leaf b h m => exact ⟨_, rfl⟩
          | fork b g ws => exact ⟨_, rfl⟩
        rw [hpa] at HNX t5 d34 ⊢
        go_wp2_with fail
        have hkc := HCC.out
        refine ⟨⟨kk, upw cs ⟨k, hlt⟩ t', σ', by omega, rfl, by rw [hkc]; exact HNX⟩, by simp [intOf]; omega⟩
    · obtain rfl : k = 16 := by omega
      have hdc : decide (((16 : Nat) : Int) < 16) = false := by decide
      have HALL := Lib.hid (HF.out.all (b := b) (g := g) HNUM.out HSV.out.1 HSV.out.2)
      have hrd := HF.out.rd
      rw [wup_16] at hrd
      obtain ⟨L, hL⟩ : ∃ L, L = (Nd.fork 0 0 ws).ents.length := ⟨_, rfl⟩
      rw [← hL] at hrd
      have hL2 : 2 ≤ L := by rw [hL]; exact HTWO.out
      have hLn : n + L ≤ 2000 := by rw [hL]; exact HN.out
      clear hL
      have c1 := hrd.c1
      have hd2 : decide (((n + L : Nat) : Int) < (n : Int) + 2) = false := decide_eq_false (by omega)
      obtain ⟨nL, hnL⟩ : ∃ nL : Int, nL = ((n + L : Nat) : Int) := ⟨_, rfl⟩
      rw [← hnL] at c1 hd2
      clear hnL hrd
      go_wp2_with fail
      go_ret
      exact HALL.out
end Go.Proofs.YtbpccbhlggcmfaaGreatDoor
namespace Go.Proofs.YtbpccbhlggcmfaaGreatDoor
open Go.RowKit
open Go.Maps

theorem node_to (w : World) (B d l rb : Nat) (S : Nat → Prop) (s : St) (nm : Key) (R : List Rc) (ρ : Nat → Nat) (hd : DL w B d l S s nm R) (hS : ¬ S rb) (hbig : R.length < 1000000000) : ∀ (t : Nd) (p : List UInt8) (W : World) (n : Nat) (σ0 : Nat → Nat), t ≠ .none → t.Wf p → t.Sv ρ R → t.Num → t.rec' ρ ≠ 0 → Only (fun k => k = rb) w W → RB W rb l n → n + t.ents.length ≤ 2000 →
    Calls Tryz.prog 39 #[.pointer (some ⟨rb, 0, none⟩), .int .i64 (t.rec' ρ : Nat), .string ⟨p.toArray⟩] W (LdPost W rb l n R ρ σ0 t)
  | .none, _, _, _, _, h, _, _, _, _, _, _, _ => absurd rfl h
  | .leaf b h m, p, W, n, σ0, _, hw, hs, hm, h0, ho, hr, hn => by
    have hl := rec_len hs
    have hd' := hd.kept ho (fun k hk e => hS (e ▸ hk))
    refine (node_leaf W B d l rb n (ρ b) S s nm R h m p hd' hr hw.1 hm hn h0 (by have : ρ b ≤ R.length := hl; omega) (hs h0) hw.2).mono ?_
    rintro e W' ⟨b', rfl, h1, h2, h3, h4⟩
    refine ⟨.leaf b' h m, upn σ0 b' (ρ b), rfl, ⟨⟨by rw [upn_same]; exact h1, hw.1⟩, rfl, upn_same _ _ _, trivial, fun _ => ?_⟩, fun k hk => ?_, fun k hk => upn_other _ _ hk, h3, h4⟩
    · rw [upn_same]; exact hs h0
    · obtain rfl : k = b' := hk
      exact h2
  | .fork b g ws, p, W, n, σ0, _, hw, hs, hm, h0, ho, hr, hn => by
    have hl := rec_len hs
    have hd' := hd.kept ho (fun k hk e => hS (e ▸ hk))
    have hbg : ρ b < 1000000000 := by have : ρ b ≤ R.length := hl; omega
    refine node_fork W B d l rb n (ρ b) S s nm R ρ σ0 b g ws p hd' hr h0 hbg (hs.2 h0).1 (fun w1 v b1 ow => ?_)
    have hr1 : RB w1 rb l n := (b1.block rb hr.lt).trans hr
    have ho1 : Only (fun k => k = rb) w w1 := ho.trans (Only.of_below (S := fun _ => False) b1) (fun _ e => e) (fun _ _ e => e.elim)
    refine fork_to w1 rb l n (ρ b) R ρ σ0 b g ws p v hr1 (Seen.own ow) hw hs rfl h0 hbg hn (fun i W2 n1 σ1 hne ho2 hr2 hn2 => ?_)
    exact node_to w B d l rb S s nm R ρ hd hS hbig (ws i) (p ++ [dg i]) W2 n1 σ1 hne (hw.2.1 i) (hs.1 i) (hm i) (((hs.2 h0).2 i).2 hne) (ho1.trans ho2 (fun _ e => e) (fun _ _ e => e)) hr2 hn2
/-- A tree as it was saved, told by its entries. -/
structure Was (T : Nd) (ρ : Nat → Nat) (R : List Rc) (k : En) : Prop where
  wf : T.Wf []
  sv : T.Sv ρ R
  num : T.Num
  tk : TK T k
  top : T ≠ .none → T.rec' ρ ≠ 0
theorem Was.grow {T : Nd} {ρ : Nat → Nat} {R : List Rc} {k : En} (h : Was T ρ R k) (X : List Rc) : Was T ρ (R ++ X) k := { h with sv := sv_grow X h.sv }
/-- A tree is loaded. -/
def LoadPost (w : World) (R : List Rc) (T : Nd) (ρ : Nat → Nat) (k : En) (e : Ending) (W : World) : Prop :=
  ∃ tb T' σ, e = .returned (.tuple #[.pointer (some ⟨tb, 0, none⟩), .nilIface]) ∧ CT W w.heap.size tb T' σ k ∧ Was T' σ R k ∧ T'.rec' σ = T.rec' ρ ∧ Below w.heap.size w W
theorem load_zero (w : World) (l : Nat) (R : List Rc) :
    Calls Tryz.prog 15 #[.pointer (some ⟨l, 0, none⟩), .int .i64 0] w (LoadPost w R .none (fun _ => 0) []) := by
  have HN := Lib.hid (new_to9 w)
  go_enter Tryz.func15, Tryz.ntmps15
  go_wp2_with (go_at_call 6; refine HN.out.mono ?_; rintro e w1 ⟨rfl, b1, t1⟩; have B1 := Lib.hid b1; have T1 := Lib.hid t1; clear b1 t1)
  go_ret2
  exact ⟨w.heap.size, .none, fun _ => 0, rfl, CT.made T1.out, ⟨trivial, trivial, trivial, TK.none, fun h => absurd rfl h⟩, rfl, B1.out⟩
set_option maxRecDepth 20000 in
set_option maxHeartbeats 4000000 in
theorem load_some (w : World) (B d l : Nat) (S : Nat → Prop) (s : St) (nm : Key) (R : List Rc) (T : Nd) (ρ : Nat → Nat) (k : En) (hd : DL w B d l S s nm R) (hbig : R.length < 1000000000) (hT : Was T ρ R k) (hne : T ≠ .none) (hk : k.length ≤ 2000) :
    Calls Tryz.prog 15 #[.pointer (some ⟨l, 0, none⟩), .int .i64 (T.rec' ρ : Nat)] w (LoadPost w R T ρ k) := by
  have h0 := hT.top hne
  have hlen : T.ents.length ≤ 2000 := by rw [hT.tk.count hT.wf]; exact hk
  have b1 := (Below.refl w.heap.size w).alloc (Nat.le_refl _) (.cells #[.pointer (some ⟨l, 0, none⟩), .int .i64 0] 98)
  have HD1 := hd.kb b1
  have HR1 : RB (w.alloc (.cells #[.pointer (some ⟨l, 0, none⟩), .int .i64 0] 98)) w.heap.size l 0 := heap_alloc_last w _
  have HC := Lib.hid (node_to _ B d l w.heap.size S s nm R ρ HD1 (fun h => by have := hd.lt _ h; omega) hbig T [] _ 0 (fun _ => 0) hne hT.wf hT.sv hT.num h0 (Only.refl _ _) HR1 (by omega))
  have HT := Lib.hid hT
  have HNE := Lib.hid hne
  have BB := Lib.hid b1
  have HLT : Hid (w.heap.size < (w.alloc (.cells #[.pointer (some ⟨l, 0, none⟩), .int .i64 0] 98)).heap.size) := Lib.hid HR1.lt
  obtain ⟨num, hnum⟩ : ∃ num, num = T.rec' ρ := ⟨_, rfl⟩
  obtain ⟨Q, hQ⟩ : ∃ Q, Q = LoadPost w R T ρ k := ⟨_, rfl⟩
  rw [← hQ]
  rw [← hnum] at h0 HC ⊢
  have HQ := Lib.hid hQ
  clear hQ
  have HNUM := Lib.hid hnum
  have hd0 : decide ((num : Int) = 0) = false := decide_eq_false (by omega)
  clear hd hT hne b1 HD1 HR1 hnum hlen hk
  go_enter Tryz.func15, Tryz.ntmps15
  go_wp2_with fail
  generalize w.alloc (.cells #[.pointer (some ⟨l, 0, none⟩), .int .i64 0] 98) = w0 at *
  refine HC.out.mono ?_
  rintro e w2 ⟨t', σ, rfl, hc, hge, hσ, hr, ho⟩
  have hnn : t' ≠ .none := fun h => HNE.out ((er_none' hc.er).1 h)
  obtain ⟨pa, hpa⟩ : ∃ pa, pad t' = some pa := by
    cases t' with
    | none => exact absurd rfl hnn
    | leaf b h m => exact ⟨_, rfl⟩
    | fork b g ws => exact ⟨_, rfl⟩
  have c1 := hr.c1
  have b2 : Below w.heap.size w w2 := BB.out.trans (ho.below (Nat.le_of_lt HLT.out) (fun k e => by omega))
  have b3 := b2.alloc b2.size (.cells #[.pointer (some pa), .int .i64 ((0 + T.ents.length : Nat) : Int)] 66)
  have ht3 := heap_alloc_last w2 (.cells #[.pointer (some pa), .int .i64 ((0 + T.ents.length : Nat) : Int)] 66)
  have b4 := (Below.refl w2.heap.size w2).alloc (Nat.le_refl _) (.cells #[.pointer (some pa), .int .i64 ((0 + T.ents.length : Nat) : Int)] 66)
  have HE : Hid (Q (.returned (.tuple #[.pointer (some ⟨w2.heap.size, 0, none⟩), .nilIface])) (w2.alloc (.cells #[.pointer (some pa), .int .i64 ((0 + T.ents.length : Nat) : Int)] 66))) := Lib.hid (by
    rw [HQ.out]
    have he : t'.ents = T.ents := er_ents' hc.er
    have hw : t'.Wf [] := er_wf' hc.er HT.out.wf
    have hk : TK t' k := { HT.out.tk with eq := by rw [he]; exact HT.out.tk.eq }
    refine ⟨w2.heap.size, t', σ, rfl, ⟨⟨?_, hc.ta.kb b4, hw, hc.sep, fun h => by have := hc.ta.lt _ h; omega⟩, hk, b2.size, fun j hj => by have := hge j hj; have := HLT.out; omega, er_num' hc.er HT.out.num⟩, ⟨hw, hc.sv, er_num' hc.er HT.out.num, hk, fun _ => ?_⟩, hc.rc, b3⟩
    · rw [ht3, ptr_pad, hpa, he, Nat.zero_add]
    · rw [hc.rc]; exact HT.out.top HNE.out)
  rw [ptr_pad, hpa]
  obtain ⟨L, hL⟩ : ∃ L : Int, L = ((0 + T.ents.length : Nat) : Int) := ⟨_, rfl⟩
  rw [← hL] at c1 HE
  clear hL hc hge hσ hr ho b2 b3 ht3 b4 hnn hpa
  go_wp2_with fail
  exact HE.out
end Go.Proofs.YtbpccbhlggcmfaaGreatDoor
namespace Go.Proofs.YtbpccbhlggcmfaaGreatDoor
open Go.RowKit
open Go.Maps
set_option maxRecDepth 20000 in
set_option maxHeartbeats 4000000 in
theorem node_miss (w : World) (B d l rb n : Nat) (num : Int) (S : Nat → Prop) (s : St) (nm : Key) (R : List Rc) (p : ByteArray) (hd : DL w B d l S s nm R) (hb : RB w rb l n) (hr : recR R (num - 1) = (0, [], false)) (hs : -1000000000 ≤ num ∧ num ≤ 1000000000) :
    Calls Tryz.prog 39 #[.pointer (some ⟨rb, 0, none⟩), .int .i64 num, .string p] w fun e w' => e = .returned (.pointer none) ∧ Below w.heap.size w w' := by
  have c0 := hb.c0
  obtain ⟨j, hj⟩ : ∃ j : Int, j = num - 1 := ⟨_, rfl⟩
  have hrec := record_dl w B d l S s nm R j hd
  unfold RecPost at hrec
  rw [show recR R j = (0, [], false) from by rw [hj]; exact hr] at hrec
  have HREC := Lib.hid hrec
  have hj1 : num - 1 = j := hj.symm
  have HJ : Hid (-9223372036854775808 ≤ j ∧ j < 9223372036854775808) := Lib.hid (by omega)
  clear hd hrec hr hj
  go_enter Tryz.func39, Tryz.ntmps39
  go_wp2_with fail
  refine HREC.out.mono ?_
  rintro e w1 ⟨v, rfl, ow, b1⟩
  have B1 := Lib.hid b1
  obtain ⟨pv, cv, rfl⟩ := own_slice ow
  clear ow b1
  go_wp2_with fail
  go_ret
  exact ⟨rfl, B1.out⟩
set_option maxRecDepth 20000 in
set_option maxHeartbeats 4000000 in
theorem load_miss (w : World) (B d l : Nat) (S : Nat → Prop) (s : St) (nm : Key) (R : List Rc) (num : Int) (hd : DL w B d l S s nm R) (h0 : num ≠ 0) (hr : recR R (num - 1) = (0, [], false)) (hs : -1000000000 ≤ num ∧ num ≤ 1000000000) :
    Calls Tryz.prog 15 #[.pointer (some ⟨l, 0, none⟩), .int .i64 num] w fun e w' => e = .returned (.tuple #[.pointer none, eno 2]) ∧ Below w.heap.size w w' := by
  have b1 := (Below.refl w.heap.size w).alloc (Nat.le_refl _) (.cells #[.pointer (some ⟨l, 0, none⟩), .int .i64 0] 98)
  have HC := Lib.hid (node_miss (w.alloc (.cells #[.pointer (some ⟨l, 0, none⟩), .int .i64 0] 98)) B d l w.heap.size 0 num S s nm R ⟨#[]⟩ (hd.kb b1) (heap_alloc_last w _) hr hs)
  have BB := Lib.hid b1
  have hd0 : decide (num = 0) = false := decide_eq_false h0
  have hd0' : (num == 0) = false := by simpa using h0
  clear hd b1 hr hs
  go_enter Tryz.func15, Tryz.ntmps15
  go_wp2_with (go_at_call 39; refine HC.out.mono ?_; rintro e w2 ⟨rfl, b2⟩; have B2 := Lib.hid b2; clear b2)
  go_ret2
  exact ⟨rfl, BB.out.trans (B2.out.mono BB.out.size)⟩
end Go.Proofs.YtbpccbhlggcmfaaGreatDoor
