/- RadixKnown returns true and makes new memory alone. Condition: errors.errorType holds what its text lays. -/
import Derived.Test.YtbpccbhlggcmfaaGreatDoorRadTy
namespace Go.Proofs.YtbpccbhlggcmfaaGreatDoor
open Go.RowKit
open Go.Maps
attribute [local go_sem ↓] hld_open heq_open hne_open

def h01 : List UInt8 := 1 :: List.replicate 31 0
def h02 : List UInt8 := 2 :: List.replicate 31 0
theorem h01_built : Tryz.prog.built 36 [(0, .int .u8 1)] = some (hv h01) := by kernel_rfl
theorem h02_built : Tryz.prog.built 36 [(0, .int .u8 2)] = some (hv h02) := by kernel_rfl
def k01 : En := kput (kput [] h01 5) h01 6
theorem kn9_a : preL k01 [] = (hz, 1) := by decide +kernel
theorem kn9_b : preL k01 [48, 50] = (hz, 11) := by decide +kernel
theorem kn9_c : (allL k01 [] 9).length = 1 := by decide +kernel
theorem kn9_d : kget h01 k01 = some 6 := by decide +kernel
theorem kn9_e : kget h02 k01 = none := by decide +kernel
theorem open_new (r : Int) (nm : Key) : openS (St.new r) nm 0 = (0, St.new r, []) := rfl
/-- A new tree, a new disk and its log. -/
theorem Tl.new {w w1 w2 w3 : World} {d l : Nat} {S S' : Nat → Prop} {s : St} {nm : Key} {R : List Rc} (t1 : TT w1 w.heap.size .none (fun _ => 0)) (b1 : Below w.heap.size w w1) (b2 : Below w1.heap.size w1 w2) (h3 : DL w3 w1.heap.size d l S' s nm R) (o3 : Only S w2 w3) (g2 : ∀ k, S k → w1.heap.size ≤ k) (s3 : ∀ k, S' k → S k ∨ w2.heap.size ≤ k) :
    ∃ S2, Tl w w3 w1.heap.size d l S2 s nm R w.heap.size .none (fun _ => 0) [] := by
  have hb : Below w1.heap.size w1 w3 := b2.trans (o3.below b2.size g2)
  obtain ⟨S2, h4, h5, h6⟩ := h3.tight
  refine ⟨S2, (CT.made t1).kb hb, ⟨h4, b1.trans (hb.mono b1.size), fun k hk => ?_⟩, h6, trivial⟩
  have hw := b1.size
  rcases s3 k (h5 k hk) with e | e
  · exact Nat.le_trans hw (g2 k e)
  · exact Nat.le_trans hw (Nat.le_trans b2.size e)
theorem Ok9.new (r : Int) (nm : Key) (n : Nat) (hn : okName nm = true) (hr : 169 * (n : Int) ≤ max 0 (min r 16777216)) (h2 : n ≤ 1000000) : Ok9 (St.new r) nm [] n := by
  refine ⟨hn, rfl, rfl, .nil, ?_, ?_, ?_⟩
  · show 0 + n ≤ 900000000
    omega
  · show ((0 : Nat) : Int) + 169 * (n : Int) ≤ max 0 (min r 16777216)
    omega
  · show 0 + 169 * n ≤ 900000000
    omega
/-- What lies in memory at the end. -/
structure KnS (w W : World) (B d l : Nat) (S : Nat → Prop) (s : St) (nm : Key) (R : List Rc) (tb : Nat) (T : Nd) (ρ : Nat → Nat) (k : En) (Bu ub : Nat) (U : Nd) (σ : Nat → Nat) : Prop where
  tl : Tl w W B d l S s nm R tb T ρ k
  u : CT W Bu ub U σ k
  gl : Glob W
theorem KnS.below {w W W' : World} {B d l : Nat} {S : Nat → Prop} {s : St} {nm : Key} {R : List Rc} {tb : Nat} {T : Nd} {ρ : Nat → Nat} {k : En} {Bu ub : Nat} {U : Nd} {σ : Nat → Nat} (h : KnS w W B d l S s nm R tb T ρ k Bu ub U σ) (hb : Below W.heap.size W W') : KnS w W' B d l S s nm R tb T ρ k Bu ub U σ := ⟨h.tl.below hb, h.u.kb hb, h.gl.kb hb⟩
set_option maxRecDepth 20000 in
set_option maxHeartbeats 8000000 in
theorem radixKnown_walk (w : World) (hg : Glob w) : Calls Tryz.prog 3 #[] w fun e w' => e = .returned (.bool true) ∧ Below w.heap.size w w' := by
  have HG := Lib.hid hg
  clear hg
  go_enter Tryz.func3, Tryz.ntmps3
  go_wp2_with fail
  refine (new_to9 w).mono ?_
  rintro e w1 ⟨rfl, b1, t1⟩
  have B1 := Lib.hid b1
  have T1 := Lib.hid t1
  clear b1 t1
  go_wp2_with fail
  refine (new_to w1 100000).mono ?_
  rintro e w2 ⟨d, S1, rfl, h2, b2, g2⟩
  have H2 := Lib.hid h2
  have B2 := Lib.hid b2
  have G2 := Lib.hid g2
  clear h2 b2 g2
  go_wp2_with fail
  refine (open_ok w2 _ d S1 (St.new 100000) [105] 0 H2.out (by decide) (by decide) (by decide) Okb.nil rfl).mono ?_
  rintro e w3 ⟨l, S3, rfl, h3, o3, s3⟩
  rw [open_new] at h3
  obtain ⟨S4, tl4⟩ := Tl.new T1.out B1.out B2.out h3 o3 G2.out s3
  have L4 := Lib.hid tl4
  have OK4 : Hid (Ok9 (St.new 100000) [105] [] 300) := Lib.hid (Ok9.new _ _ _ (by decide) (by decide) (by decide))
  obtain ⟨s4, hs4⟩ : ∃ s, s = St.new 100000 := ⟨_, rfl⟩
  rw [← hs4] at L4 OK4
  clear h3 o3 s3 tl4 H2 B2 G2 T1 B1 hs4
  obtain ⟨nm, hnm⟩ : ∃ nm : Key, nm = [105] := ⟨_, rfl⟩
  rw [← hnm] at L4 OK4
  clear hnm
  go_wp2_with fail
  refine (known9_to w3 (HG.out.kb L4.out.cl.bel)).mono ?_
  rintro e w5 ⟨rfl, b5⟩
  have L5 := Lib.hid (L4.out.below b5)
  clear b5 L4
  go_wp2_with fail
  refine (save_tl 300 L5.out OK4.out (Nat.zero_le _) (by decide)).mono ?_
  rintro e w6 ⟨S6, s6, R6, σ6, rfl, tl6, ok6, sp6, _⟩
  have HR6 : R6 = [] := by
    obtain ⟨X, h1, h2⟩ := sp6.grow
    rw [show X = [] from List.eq_nil_of_length_eq_zero h2] at h1
    exact h1
  subst HR6
  have L6 := Lib.hid tl6
  have OK6 : Hid (Ok9 s6 nm [] 300) := Lib.hid ok6
  rw [show (Nd.none.rec' σ6 : Nat) = 0 from rfl]
  clear tl6 ok6 sp6 L5 OK4
  go_wp2_with (refine build_to (vals := #[(0, .int .u8 1)]) h01_built ?hv ?_; (case hv => simp [Act.eval]))
  refine (put_neg w6 w.heap.size h01 (-1) (by decide)).mono ?_
  rintro e w7 ⟨rfl, b7⟩
  have L7 := Lib.hid (L6.out.below b7)
  clear b7 L6
  go_wp2_with (refine build_to (vals := #[(0, .int .u8 1)]) h01_built ?hv ?_; (case hv => simp [Act.eval]))
  refine (tput_to w7 w.heap.size .none σ6 h01 5 rfl (by decide) L7.out.ct.tt (by decide)).mono ?_
  rintro e w8 ⟨rfl, p8⟩
  obtain ⟨T8, σ8, tl8, _⟩ := L7.out.put rfl p8
  have L8 := Lib.hid tl8
  clear p8 tl8 L7
  go_wp2_with (refine build_to (vals := #[(0, .int .u8 1)]) h01_built ?hv ?_; (case hv => simp [Act.eval]))
  refine (tput_to w8 w.heap.size T8 σ8 h01 6 rfl (by decide) L8.out.ct.tt (L8.out.ct.big (by decide))).mono ?_
  rintro e w9 ⟨rfl, p9⟩
  obtain ⟨T9, σ9, tl9, _⟩ := L8.out.put rfl p9
  have L9 : Hid (Tl w w9 w1.heap.size d l S6 s6 nm [] w.heap.size T9 σ9 k01) := Lib.hid tl9
  clear p9 tl9 L8
  have hge := get_ct w9 w.heap.size w.heap.size T9 σ9 k01 h01 rfl L9.out.ct
  rw [kn9_d] at hge
  have HGE := Lib.hid hge
  clear hge
  go_wp2_with (refine build_to (vals := #[(0, .int .u8 1)]) h01_built ?hv ?_; (case hv => simp [Act.eval]))
  refine HGE.out.mono ?_
  rintro e w10 ⟨rfl, b10⟩
  have L10 := Lib.hid (L9.out.below b10)
  clear b10 L9 HGE
  have hge := get_ct w10 w.heap.size w.heap.size T9 σ9 k01 h02 rfl L10.out.ct
  rw [kn9_e] at hge
  have HGE := Lib.hid hge
  clear hge
  go_wp2_with (refine build_to (vals := #[(0, .int .u8 2)]) h02_built ?hv ?_; (case hv => simp [Act.eval]))
  refine HGE.out.mono ?_
  rintro e w11 ⟨rfl, b11⟩
  have L11 := Lib.hid (L10.out.below b11)
  clear b11 L10 HGE
  have hpa := prefix_ct w11 w.heap.size w.heap.size T9 σ9 k01 ⟨#[]⟩ L11.out.ct
  rw [show (⟨#[]⟩ : ByteArray).data.toList = [] from rfl, kn9_a] at hpa
  have HPA := Lib.hid hpa
  clear hpa
  go_wp2_with fail
  refine HPA.out.mono ?_
  rintro e w12 ⟨rfl, b12⟩
  have L12 := Lib.hid (L11.out.below (b12.alloc b12.size (.cells (hv hz) 36)))
  have st12 := hst_cells hz rfl w12
  clear b12 L11 HPA
  go_wp2_with fail
  generalize w12.alloc (.cells (hv hz) 36) = w13 at *
  have hpa := prefix_ct w13 w.heap.size w.heap.size T9 σ9 k01 ⟨#[48, 50]⟩ L12.out.ct
  rw [show (⟨#[48, 50]⟩ : ByteArray).data.toList = [48, 50] from rfl, kn9_b] at hpa
  have HPA := Lib.hid hpa
  clear hpa st12
  refine HPA.out.mono ?_
  rintro e w14 ⟨rfl, b14⟩
  have L14 := Lib.hid (L12.out.below (b14.alloc b14.size (.cells (hv hz) 36)))
  have st14 := hst_cells hz rfl w14
  clear b14 L12 HPA
  go_wp2_with fail
  generalize w14.alloc (.cells (hv hz) 36) = w15 at *
  clear st14
  have HONE : Hid (T9.ents.length = 1) := Lib.hid (by rw [L14.out.ct.tk.count L14.out.ct.tt.wf]; decide)
  have HUS : Hid ((T9.usn σ9).length ≤ 1) := Lib.hid (by
    have h1 := HONE.out
    have h2 := L14.out.ct.tt.wf
    cases T9 with
    | none => simp [Nd.ents] at h1
    | leaf b h m => exact Nat.le_trans (usn_nun _) (by show (if σ9 b = 0 then 1 else 0) ≤ 1; split <;> decide)
    | fork b g ws => have := h2.2.2; omega)
  have HNE : Hid (T9 ≠ .none) := Lib.hid (fun e => by have := HONE.out; rw [e] at this; simp [Nd.ents] at this)
  refine (save_tl 300 L14.out OK6.out (Nat.le_trans HUS.out (by decide)) (by decide)).mono ?_
  rintro e w16 ⟨S16, s16, R16, σ16, rfl, tl16, ok16, sp16, _⟩
  have L16 := Lib.hid tl16
  have HW16 := Lib.hid (tl16.was sp16.top)
  have OK16 : Hid (Ok9 s16 nm R16 1) := Lib.hid (ok16.le (by have := HUS.out; omega))
  have HRL : Hid (1 ≤ R16.length ∧ R16.length ≤ 1) := Lib.hid (by
    constructor
    · have h1 : T9.rec' σ16 ≤ R16.length := rec_len sp16.sv
      have h2 : T9.rec' σ16 ≠ 0 := sp16.top HNE.out
      omega
    · obtain ⟨X, h1, h2⟩ := sp16.grow
      have h3 : R16.length = X.length := congrArg List.length h1
      rw [h3, h2]; exact HUS.out)
  have HUZ : Hid (T9.usn σ16 = []) := Lib.hid (saved_usn sp16.top)
  clear tl16 ok16 sp16 L14 OK6 HUS
  obtain ⟨r, hr⟩ : ∃ r, r = T9.rec' σ16 := ⟨_, rfl⟩
  have HR := Lib.hid hr
  rw [← hr]
  clear hr
  have hcn := count_dl w16 _ d l S16 s16 nm R16 L16.out.cl.dl
  rw [show R16.length = 1 from by have := HRL.out; omega] at hcn
  have HCN := Lib.hid hcn
  clear hcn
  go_wp2_with fail
  refine HCN.out.mono ?_
  rintro e w' ⟨rfl, rfl⟩
  have hsv := save_tl 1 L16.out OK16.out (by rw [HUZ.out]; decide) (by decide)
  have HSV := Lib.hid hsv
  clear hsv HCN
  go_wp2_with fail
  refine HSV.out.mono ?_
  rintro e w17 ⟨S17, s17, R17, σ17, rfl, tl17, ok17, sp17, hz17⟩
  rw [HUZ.out] at hz17
  obtain ⟨rfl, rfl⟩ : σ17 = σ16 ∧ R17 = R16 := by simpa [savs] using hz17
  rw [← HR.out]
  have L17 := Lib.hid tl17
  clear tl17 ok17 sp17 hz17 HSV L16 OK16
  have hld := load_some w17 _ d l S17 s17 nm R17 T9 σ17 k01 L17.out.cl.dl (by have := HRL.out; omega) HW16.out HNE.out (by decide)
  rw [← HR.out] at hld
  have HLD := Lib.hid hld
  clear hld
  go_wp2_with fail
  refine HLD.out.mono ?_
  rintro e w18 ⟨ub, U, σu, rfl, ct18, _, _, b18⟩
  have K18 : Hid (KnS w w18 w1.heap.size d l S17 s17 nm R17 w.heap.size T9 σ17 k01 w17.heap.size ub U σu) := Lib.hid ⟨L17.out.below b18, ct18, (HG.out.kb L17.out.cl.bel).kb b18⟩
  clear ct18 b18 L17 HLD
  have HLM := Lib.hid (load_miss w18 _ d l S17 s17 nm R17 9999 K18.out.tl.cl.dl (by decide) (by unfold recR; rw [if_pos (.inr (by have := HRL.out; omega))]) (by decide))
  go_wp2_with fail
  refine HLM.out.mono ?_
  rintro e w19 ⟨rfl, b19⟩
  have K19 := Lib.hid (K18.out.below b19)
  clear b19 K18 HLM
  go_wp2_with fail
  refine (load_zero w19 l R17).mono ?_
  rintro e w20 ⟨zb, Z, σz, rfl, ctz, _, _, b20⟩
  have K20 := Lib.hid (K19.out.below b20)
  have Z20 := Lib.hid ctz
  clear ctz b20 K19
  have hge := get_ct w20 w17.heap.size ub U σu k01 h01 rfl K20.out.u
  rw [kn9_d] at hge
  have HGE := Lib.hid hge
  clear hge
  go_wp2_with (refine build_to (vals := #[(0, .int .u8 1)]) h01_built ?hv ?_; (case hv => simp [Act.eval]))
  refine HGE.out.mono ?_
  rintro e w21 ⟨rfl, b21⟩
  have K21 := Lib.hid (K20.out.below b21)
  have Z21 := Lib.hid (Z20.out.kb b21)
  clear b21 K20 Z20 HGE
  simp only [gnum, Option.getD_some, Option.isSome_some]
  go_wp2_with fail
  refine (khand9 w21 1 (by decide) K21.out.gl).mono ?_
  rintro e w22 ⟨rfl, bb⟩
  have K22 := Lib.hid (K21.out.below bb)
  have Z22 := Lib.hid (Z21.out.kb bb)
  clear bb K21 Z21
  go_wp2_with fail
  refine (khand9 w22 11 (by decide) K22.out.gl).mono ?_
  rintro e w23 ⟨rfl, bb⟩
  have K23 := Lib.hid (K22.out.below bb)
  have Z23 := Lib.hid (Z22.out.kb bb)
  clear bb K22 Z22
  have hcn := count_dl w23 _ d l S17 s17 nm R17 K23.out.tl.cl.dl
  rw [show R17.length = 1 from by have := HRL.out; omega] at hcn
  have HCN := Lib.hid hcn
  clear hcn
  go_wp2_with fail
  refine HCN.out.mono ?_
  rintro e w' ⟨rfl, rfl⟩
  go_wp2_with fail
  refine (khand9 w23 2 (by decide) K23.out.gl).mono ?_
  rintro e w24 ⟨rfl, bb⟩
  have K24 := Lib.hid (K23.out.below bb)
  have Z24 := Lib.hid (Z23.out.kb bb)
  clear bb K23 Z23 HCN
  have HCZ := Lib.hid (count_ct w24 _ zb Z σz [] Z24.out)
  have hcu := count_ct w24 _ ub U σu k01 K24.out.u
  rw [show ((k01.length : Nat) : Int) = 1 from rfl] at hcu
  have HCU := Lib.hid hcu
  clear hcu
  go_wp2_with fail
  refine HCZ.out.mono ?_
  rintro e w' ⟨rfl, rfl⟩
  go_wp2_with fail
  refine HCU.out.mono ?_
  rintro e w' ⟨rfl, rfl⟩
  have HAL := Lib.hid (all_ct w24 _ ub U σu k01 ⟨#[]⟩ 9 (by decide) K24.out.u)
  go_wp2_with fail
  refine HAL.out.mono ?_
  rintro e w25 ⟨v25, rfl, o25, b25⟩
  have h1 : (allL k01 (⟨#[]⟩ : ByteArray).data.toList 9).length = 1 := kn9_c
  generalize allL k01 (⟨#[]⟩ : ByteArray).data.toList 9 = E at *
  obtain ⟨pv, cv, rfl⟩ := own_shape o25
  rw [h1]
  have BL : Hid (Below w.heap.size w w25) := Lib.hid (K24.out.tl.cl.bel.trans (b25.mono K24.out.tl.cl.bel.size))
  clear o25 b25 h1
  go_wp2_with fail
  go_ret
  exact ⟨rfl, BL.out⟩
end Go.Proofs.YtbpccbhlggcmfaaGreatDoor
