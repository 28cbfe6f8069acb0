/- RadixHolds returns true and makes new memory alone. Condition: errors.errorType holds what its text lays. -/
import Derived.Test.YtbpccbhlggcmfaaDoorRadIs
import Derived.Test.YtbpccbhlggcmfaaDoorRadPs
namespace Go.Proofs.YtbpccbhlggcmfaaDoor
open Go.RowKit
attribute [local go_sem ↓] hld_open heq_open hne_open

theorem pairinfo (x : Pr) (h : x.h.length = 32) : (Tryd.prog.info? 35).map (·.size) = some x.row.length := by rw [Pr.row_length h]; kernel_rfl
theorem TA.ty {W : World} {ρ : Nat → Nat} : ∀ {t : Nd}, TA W ρ t → ∀ k, t.Bl k → ∃ cs t', W.heap[k]? = some (.cells cs t' (0, 0)) ∧ (t' = 56 ∨ t' = 90)
  | .none, _, _, hk => hk.elim
  | .leaf b h m, ht, k, hk => by
    obtain rfl : k = b := hk
    exact ⟨_, _, ht.1, .inl rfl⟩
  | .fork b g ws, ht, k, hk => by
    rcases hk with rfl | rfl | ⟨i, hk⟩
    · exact ⟨_, _, ht.1, .inl rfl⟩
    · exact ⟨_, _, ht.2.1, .inr rfl⟩
    · exact (ht.2.2 i).ty k hk
/-- No block of what was put is one of the tree's. -/
theorem KX.apart {W : World} {B tb : Nat} {T : Nd} {ρ : Nat → Nat} {k : En} {B2 kb : Nat} {vh vn : Value} {E : List (List UInt8)} {l : List Int} (H : CT W B tb T ρ k) (K : KX W B2 kb vh vn E l) {j : Nat} (h1 : j = tb ∨ T.Bl j) (h2 : j = kb ∨ vh.ownBlock = some j ∨ vn.ownBlock = some j) : False := by
  have ht : ∃ cs t', W.heap[j]? = some (.cells cs t' (0, 0)) ∧ (t' = 56 ∨ t' = 90 ∨ t' = 43) := by
    rcases h1 with rfl | h1
    · exact ⟨_, _, H.tt.top, .inr (.inr rfl)⟩
    · obtain ⟨cs, t', e1, e2⟩ := H.tt.ta.ty j h1
      exact ⟨cs, t', e1, e2.elim .inl (fun e => .inr (.inl e))⟩
  obtain ⟨cs, t', e1, e2⟩ := ht
  have hs : ∃ ds t2, W.heap[j]? = some (.cells ds t2 (0, 0)) ∧ (t2 = 30 ∨ t2 = 33 ∨ t2 = 3) := by
    rcases h2 with rfl | h2 | h2
    · exact ⟨_, _, K.cell, .inl rfl⟩
    · obtain ⟨ds, hds⟩ := row_type9 K.hs h2
      exact ⟨ds, _, hds, .inr (.inl rfl)⟩
    · obtain ⟨ds, hds⟩ := row_type9 K.ns h2
      exact ⟨ds, _, hds, .inr (.inr rfl)⟩
  obtain ⟨ds, t2, e3, e4⟩ := hs
  rw [e1] at e3
  have e5 : t' = t2 := by injection e3 with e3; injection e3
  subst e5
  rcases e2 with rfl | rfl | rfl <;> rcases e4 with e | e | e <;> exact absurd e (by decide)
theorem KX.keep {W W' : World} {B kb : Nat} {vh vn : Value} {E : List (List UInt8)} {l : List Int} {S : Nat → Prop} (h : KX W B kb vh vn E l) (ho : Only S W W') (hS : ∀ j, (j = kb ∨ vh.ownBlock = some j ∨ vn.ownBlock = some j) → ¬ S j) : KX W' B kb vh vn E l := by
  refine ⟨(ho.block kb h.lt (hS kb (.inl rfl))).trans h.cell, ⟨h.hs.1, ?_⟩, ⟨h.ns.1, ?_⟩, h.h32, h.ge⟩
  · rcases h.hs.2 with h1 | ⟨g, cap, cur, h1, h2, hg, h3⟩
    · exact .inl h1
    · exact .inr ⟨g, cap, cur, h1, h2, (ho.block g (Array.getElem?_eq_some_iff.1 hg).1 (hS g (.inr (.inl (by rw [h1]; rfl))))).trans hg, h3⟩
  · rcases h.ns.2 with h1 | ⟨g, cap, cur, h1, h2, hg, h3⟩
    · exact .inl h1
    · exact .inr ⟨g, cap, cur, h1, h2, (ho.block g (Array.getElem?_eq_some_iff.1 hg).1 (hS g (.inr (.inr (by rw [h1]; rfl))))).trans hg, h3⟩
/-- The tree and what was put, side by side. -/
structure HoI (w W : World) (tb : Nat) (T : Nd) (ρ : Nat → Nat) (k : En) (kb : Nat) (vh vn : Value) (k2 : En) : Prop where
  ct : CT W w.heap.size tb T ρ k
  kx : KX W w.heap.size kb vh vn (keys k2) (nums k2)
  bel : Below w.heap.size w W
section
variable {w W W' : World} {tb : Nat} {T : Nd} {ρ : Nat → Nat} {k k2 : En} {kb : Nat} {vh vn : Value}
theorem HoI.below (h : HoI w W tb T ρ k kb vh vn k2) (hb : Below W.heap.size W W') : HoI w W' tb T ρ k kb vh vn k2 := ⟨h.ct.kb hb, h.kx.below hb, h.bel.trans (hb.mono h.bel.size)⟩
theorem HoI.put {h : List UInt8} {m : Int} (H : HoI w W tb T ρ k kb vh vn k2) (hh : h.length = 32) (hp : PutPost W tb T ρ h m W') : ∃ T' σ, HoI w W' tb T' σ (kput k h m) kb vh vn k2 ∧ PutS [] h m ρ σ T T' := by
  obtain ⟨T', σ, h1, h2, h3⟩ := H.ct.put H.bel.size hh hp
  obtain ⟨_, _, _, _, _, h4⟩ := hp
  exact ⟨T', σ, ⟨h1, H.kx.keep h4 (fun j hj e => KX.apart H.ct H.kx e hj), H.bel.trans h2⟩, h3⟩
theorem HoI.kput {h : List UInt8} {m : Int} (H : HoI w W tb T ρ k kb vh vn k2) (hp : KPost W w.heap.size kb vh vn (Go.Proofs.YtbpccbhlggcmfaaDoor.kput k2 h m) W') : ∃ vh' vn', HoI w W' tb T ρ k kb vh' vn' (Go.Proofs.YtbpccbhlggcmfaaDoor.kput k2 h m) := by
  obtain ⟨⟨vh', vn', h1⟩, h2, h3⟩ := hp
  exact ⟨vh', vn', ⟨{ H.ct with tt := H.ct.tt.kept h3 (fun j hj e => KX.apart H.ct H.kx hj e) }, h1, H.bel.trans h2⟩⟩
end
theorem prseen_at {w W : World} {B b o : Nat} {E : List Pr} (h : PrSeen w (some ⟨b, o, none⟩) E) (hb : Below B w W) (hB : w.heap.size ≤ B) {i : Nat} {x : Pr} (hi : E[i]? = some x) : W.rangeAt b (o + i * 35) x.row := fun j v hj => by
  obtain ⟨b', o', e, hr⟩ := h i x hi
  injection e with e
  injection e with e1 e2
  subst e1 e2
  have h1 := hr j v hj
  have h2 := World.block_lt_of_cell? w _ h1
  rw [World.cell?_of_block (w := w) (hb.block _ (Nat.lt_of_lt_of_le h2 hB))]
  exact h1
set_option maxRecDepth 20000 in
set_option maxHeartbeats 8000000 in
theorem radixHolds_walk (w : World) (hg : Glob w) (p0 : Option Addr) (c0 : Nat) (E : List Pr) (hE : PrSeen w p0 E) (h32 : ∀ x ∈ E, x.h.length = 32) (v1 : Value) (l : List Int) (hl : ISeen w v1 l) :
    Calls Tryd.prog 3 #[.slice p0 E.length c0, v1] w fun e w' => e = .returned (.bool true) ∧ Below w.heap.size w w' := by
  have HG := Lib.hid hg
  have HE := Lib.hid hE
  have HP32 := Lib.hid h32
  have HL := Lib.hid hl
  clear hg hE h32 hl
  go_enter Tryd.func3, Tryd.ntmps3
  go_wp2_with fail
  refine (new_to9 w).mono ?_
  rintro e w1 ⟨rfl, b1, t1⟩
  have C1 := Lib.hid (CT.made t1)
  have B1 := Lib.hid b1
  clear b1 t1
  go_wp2_with fail
  refine (known9_to w1 (HG.out.kb B1.out)).mono ?_
  rintro e w2 ⟨rfl, b2⟩
  have C2 := Lib.hid (C1.out.kb b2)
  have B2 := Lib.hid (B1.out.trans (b2.mono B1.out.size))
  have I0 : Hid (HoI w (w2.alloc (.cells #[.slice none 0 0, .slice none 0 0] 30)) w.heap.size .none (fun _ => 0) [] w2.heap.size (.slice none 0 0) (.slice none 0 0) []) := Lib.hid
    ⟨C2.out.kb ((Below.refl _ w2).alloc (Nat.le_refl _) _), ⟨heap_alloc_last w2 _, World.ownsRow_nil _ _ _ _, World.ownsRow_nil _ _ _ _, H32.nil, B2.out.size⟩, B2.out.alloc B2.out.size _⟩
  clear b2 C1 C2 B1 B2
  go_wp2_with fail
  generalize w2.alloc (.cells #[.slice none 0 0, .slice none 0 0] 30) = w3 at *
  go_loopw [7] (fun v wr => ∃ (i : Nat) (T : Nd) (ρ : Nat → Nat) (k : En) (vh vn : Value), i ≤ E.length ∧ i ≤ 50 ∧ v = .int .i64 i ∧ Hid (k.length ≤ i) ∧ Hid (HoI w wr w.heap.size T ρ k w2.heap.size vh vn k)) (fun v _ => 50 - (intOf v).toNat)
  case atStart => exact ⟨0, _, _, _, _, _, by omega, by omega, rfl, Lib.hid (Nat.le_refl _), I0⟩
  case round =>
    obtain ⟨i, T, ρ, k, vh, vn, hi, hi50, rfl, HKL, HI⟩ := hrel
    by_cases hgo : i < E.length ∧ i < 50
    case neg =>
      have HIS := Lib.hid (is_to wr (HG.out.kb HI.out.bel) w.heap.size w.heap.size T ρ k w.heap.size w2.heap.size vh vn v1 l ⟨HI.out.ct, HI.out.kx⟩ (iseen_kb HL.out HI.out.bel) (by have := HKL.out; omega))
      have hdc : decide ((i : Int) < E.length) = false ∨ decide ((i : Int) < E.length) = true ∧ decide ((i : Int) < 50) = false := by
        by_cases h1 : i < E.length
        · exact .inr ⟨decide_eq_true (by omega), decide_eq_false (by omega)⟩
        · exact .inl (decide_eq_false (by omega))
      rcases hdc with h1 | ⟨h1, h2⟩
      · go_wp2_with (go_at_call 10; refine HIS.out.mono ?_; rintro e w9 ⟨rfl, b9⟩; have B9 := Lib.hid b9; clear b9)
        all_goals
          go_ret
          exact ⟨rfl, HI.out.bel.trans (B9.out.mono HI.out.bel.size)⟩
      · go_wp2_with (go_at_call 10; refine HIS.out.mono ?_; rintro e w9 ⟨rfl, b9⟩; have B9 := Lib.hid b9; clear b9)
        all_goals
          go_ret
          exact ⟨rfl, HI.out.bel.trans (B9.out.mono HI.out.bel.size)⟩
    case pos =>
      obtain ⟨hil, hi5⟩ := hgo
      have HX0 := Lib.hid (List.getElem?_eq_getElem hil)
      obtain ⟨b, o, hp0, _⟩ := HE.out i _ HX0.out
      subst hp0
      have HR := Lib.hid (fun W (hW : Below w.heap.size w W) => prseen_at HE.out hW (Nat.le_refl _) HX0.out)
      have HX32 := Lib.hid (HP32.out E[i] (List.getElem_mem hil))
      generalize E[i] = x at *
      have HHP := Lib.hid (fun W => hashp_to W x HX32.out)
      have HQ32 : Hid (x.hash.length = 32) := Lib.hid (Pr.hash_length HX32.out)
      have hdl : decide ((i : Int) < E.length) = true := decide_eq_true (by omega)
      have hd5 : decide ((i : Int) < 50) = true := decide_eq_true (by omega)
      have hcv : wr.cell? ⟨b, o + i * 35 + 1, none⟩ = some (.int .i64 x.v) := HR.out wr HI.out.bel 1 _ rfl
      obtain ⟨r, hr⟩ : ∃ r, r = x.v % 1000 := ⟨_, rfl⟩
      have hrr : 0 ≤ r ∧ r < 1000 := by omega
      have HPK := Lib.hid (fun W => pick_to W x.v 1000 r (by decide) (by decide) hr.symm)
      obtain ⟨m, hm⟩ : ∃ m, m = r - 5 := ⟨_, rfl⟩
      have hwr : wrap64 (r - 5) = m := by rw [hm]; exact IntWalk.wrap64_in _ (by omega)
      have hwr2 : IntKind.i64.wrap (r - 5) = m := by rw [hm]; exact IntWalk.i64_in _ (by omega)
      have hmr : -5 ≤ m ∧ m < 1000 := by omega
      clear hr hm
      by_cases hneg : m < 0
      case pos =>
        have hge : decide (m ≥ 0) = false := decide_eq_false (by omega)
        have hge2 : decide (0 ≤ m) = false := decide_eq_false (by omega)
        have HPN := Lib.hid (fun W h => put_neg W w.heap.size h m hneg)
        clear hneg hrr
        go_wp2_with (first
          | (go_at_call 6; refine (HPK.out _).mono ?_; rintro e w' ⟨rfl, rfl⟩)
          | (refine load_to (HR.out wr HI.out.bel) Tryd.underlying35 rfl (pairinfo x HX32.out) ?hx ?_; (case hx => rfl))
          | (go_at_call 8; refine (HHP.out _).mono ?_; rintro e w5 ⟨rfl, b5⟩; have I5 := Lib.hid (HI.out.below b5); clear b5)
          | (go_at_call 7; refine (HPN.out _ _).mono ?_; rintro e w6 ⟨rfl, b6⟩; have I6 := Lib.hid (I5.out.below b6); clear b6))
        go_round
        case rel => exact ⟨i + 1, T, ρ, k, vh, vn, by omega, by omega, by go_num, Lib.hid (Nat.le_succ_of_le HKL.out), I6⟩
        case measure => simp [intOf]; omega
      case neg =>
        have hge : decide (m ≥ 0) = true := decide_eq_true (by omega)
        have hge2 : decide (0 ≤ m) = true := decide_eq_true (by omega)
        have HMM : Hid (0 ≤ m ∧ m ≤ 1000000) := Lib.hid (by omega)
        have HKB : Hid (k.length ≤ 1000000) := Lib.hid (Nat.le_trans HKL.out (by omega))
        clear hneg hrr
        go_wp2_with (first
          | (go_at_call 9; refine (kput_to w7 w.heap.size w2.heap.size k x.hash m vh vn I7.out.kx HQ32.out I7.out.bel.size HKB.out).mono ?_; rintro e w8 ⟨rfl, h8⟩; obtain ⟨vh8, vn8, c8⟩ := I7.out.kput h8; have I8 := Lib.hid c8; clear h8 c8)
          | (go_at_call 8; refine (HHP.out _).mono ?_; rintro e w7 ⟨rfl, b7⟩; have I7 := Lib.hid (I6.out.below b7); clear b7)
          | (refine load_to (HR.out w6 I6.out.bel) Tryd.underlying35 rfl (pairinfo x HX32.out) ?hx ?_; (case hx => rfl))
          | (go_at_call 6; refine (HPK.out _).mono ?_; rintro e w' ⟨rfl, rfl⟩)
          | (refine load_to (HR.out wr HI.out.bel) Tryd.underlying35 rfl (pairinfo x HX32.out) ?hx ?_; (case hx => rfl))
          | (go_at_call 8; refine (HHP.out _).mono ?_; rintro e w5 ⟨rfl, b5⟩; have I5 := Lib.hid (HI.out.below b5); clear b5)
          | (go_at_call 7; refine (put_to w5 w.heap.size T ρ x.hash m HQ32.out HMM.out I5.out.ct.tt (I5.out.ct.big HKB.out)).mono ?_; rintro e w6 ⟨rfl, b6⟩; obtain ⟨T6, σ6, c6, _⟩ := I5.out.put HQ32.out b6; have I6 := Lib.hid c6; clear b6 c6))
        go_round
        case rel => exact ⟨i + 1, T6, σ6, kput k x.hash m, vh8, vn8, by omega, by omega, by go_num, Lib.hid (Nat.le_trans (kput_length k x.hash m) (Nat.succ_le_succ HKL.out)), I8⟩
        case measure => simp [intOf]; omega
end Go.Proofs.YtbpccbhlggcmfaaDoor
