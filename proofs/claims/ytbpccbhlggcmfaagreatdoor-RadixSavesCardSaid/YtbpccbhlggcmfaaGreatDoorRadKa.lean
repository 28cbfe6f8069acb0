/- What a tree of digits tells, by what was put: plain mathematics. No condition. · A tree of the caller's own; the chapter's example returns true. Condition: errors.errorType holds what its text lays. -/
import Derived.Test.YtbpccbhlggcmfaaGreatDoorRadK
namespace Go.Proofs.YtbpccbhlggcmfaaGreatDoor
open Go.RowKit

/-- The tree holds just these entries. -/
structure TK (T : Nd) (k : En) : Prop where
  eq : EqE T.ents k
  h32 : H32 (keys k)
  nd : (keys k).Nodup
theorem TK.none : TK .none [] := ⟨EqE.refl _, H32.nil, .nil⟩
theorem TK.get {T : Nd} {k : En} (H : TK T k) (hw : T.Wf []) {h : List UInt8} (hh : h.length = 32) : T.lk 0 h = kget h k := by
  have := hw.kget hh List.nil_prefix
  rw [← H.eq h, this]; rfl
theorem TK.put {T T' : Nd} {k : En} (H : TK T k) (hw : T.Wf []) {h : List UInt8} {m : Int} {ρ σ : Nat → Nat} (hh : h.length = 32) (hP : PutS [] h m ρ σ T T') : TK T' (kput k h m) := by
  refine ⟨fun x => ?_, ?_, keys_put_nodup H.nd h m⟩
  · by_cases hx : x.length = 32
    · have h1 := hP.wf.kget hx List.nil_prefix
      have h2 := hP.lk x hx List.nil_prefix
      rw [h1, h2]
      by_cases e : x = h
      · subst e; rw [if_pos rfl, kget_put_same]
      · rw [if_neg e, kget_put_other h x m e]; exact H.get hw hx
    · have h1 : x ∉ keys T'.ents := fun hm => by
        obtain ⟨e, he, rfl⟩ := List.mem_map.1 hm
        exact hx (hP.wf.mem he).1
      rw [kget_none h1, kget_put_other h x m (fun e => hx (by rw [e, hh]))]
      exact (kget_none fun hm => hx (H.h32 x hm)).symm
  · rw [keys_put]
    split
    · exact H.h32
    · exact H.h32.app (H32.one hh)
theorem TK.count {T : Nd} {k : En} (H : TK T k) (hw : T.Wf []) : T.ents.length = k.length := H.eq.count hw.nodup H.nd
theorem TK.keys {T : Nd} {k : En} (H : TK T k) (hw : T.Wf []) : Go.Proofs.YtbpccbhlggcmfaaGreatDoor.keys T.ents = rsort (Go.Proofs.YtbpccbhlggcmfaaGreatDoor.keys k) := H.eq.asc hw.asc
/-- The hashes that begin so. -/
def selL (k : En) (s : List UInt8) : List (List UInt8) := (rsort (keys k)).filter fun x => s.isPrefixOf (tx x)
def allL (k : En) (s : List UInt8) (M : Int) : List (List UInt8) := if s = [] ∨ pre s = true then (selL k s).take M.toNat else []
theorem TK.all {T : Nd} {k : En} (H : TK T k) (hw : T.Wf []) (s : List UInt8) (M : Int) : allS T s M = allL k s M := by
  unfold allS allL selL
  rw [H.keys hw]
def one9 : List (List UInt8) → List UInt8 × Int
  | [] => (hz, 11)
  | [h] => (h, 0)
  | _ => (hz, 14)
def preL (k : En) (s : List UInt8) : List UInt8 × Int := if pre s = false then (hz, 1) else one9 (selL k s)
theorem fnd_wf : ∀ (s : List UInt8) {t : Nd} {p : List UInt8}, t.Wf p → ∃ q, (t.fnd s).Wf q
  | [], t, p, h => by rw [fnd_nil]; exact ⟨p, h⟩
  | _ :: _, .none, p, h => ⟨p, h⟩
  | _ :: _, .leaf _ _ _, p, h => ⟨p, h⟩
  | _ :: s, .fork _ _ _, _, h => fnd_wf s (h.2.1 _)
theorem TK.pre {T : Nd} {k : En} (H : TK T k) (hw : T.Wf []) (s : List UInt8) : preS T s = preL k s := by
  unfold preS preL
  by_cases hp : Go.Proofs.YtbpccbhlggcmfaaGreatDoor.pre s = true
  · rw [if_neg (by rw [hp]; decide), if_neg (by rw [hp]; decide)]
    have h1 := fnd_keys hw (pre_digs9 hp).1
    rw [H.keys hw] at h1
    change _ = selL k s at h1
    rw [← h1]
    obtain ⟨q, hq⟩ := fnd_wf s hw
    have hq2 : ((T.fnd s).fin s).Wf q := by
      generalize T.fnd s = u at *
      cases u with
      | none => trivial
      | leaf b x m =>
        show (if s <+: tx x then Nd.leaf b x m else .none).Wf q
        split
        · exact hq
        · trivial
      | fork b g ws => exact hq
    generalize (T.fnd s).fin s = u at *
    cases u with
    | none => rfl
    | leaf b x m => rfl
    | fork b g ws =>
      have h2 := hq2.2.2
      generalize (Nd.fork b g ws).ents = l at *
      match l, h2 with
      | a :: b :: l, _ => rfl
  · have hp' : Go.Proofs.YtbpccbhlggcmfaaGreatDoor.pre s = false := by simpa using hp
    rw [if_pos hp', if_pos hp']
end Go.Proofs.YtbpccbhlggcmfaaGreatDoor
namespace Go.Proofs.YtbpccbhlggcmfaaGreatDoor
open Go.RowKit
attribute [local go_sem ↓] hld_open heq_open hne_open

/-- A tree of the caller's own. -/
structure CT (W : World) (B tb : Nat) (T : Nd) (ρ : Nat → Nat) (k : En) : Prop where
  tt : TT W tb T ρ
  tk : TK T k
  gt : B ≤ tb
  gb : ∀ j, T.Bl j → B ≤ j
  num : T.Num
section
variable {W W' : World} {B tb : Nat} {T : Nd} {ρ : Nat → Nat} {k : En}
theorem CT.kb (h : CT W B tb T ρ k) (hb : Below W.heap.size W W') : CT W' B tb T ρ k := { h with tt := h.tt.kb hb }
theorem CT.made {w w' : World} (ht : TT w' w.heap.size .none (fun _ => 0)) : CT w' w.heap.size w.heap.size .none (fun _ => 0) [] := ⟨ht, TK.none, Nat.le_refl _, fun _ h => h.elim, trivial⟩
theorem CT.put {h : List UInt8} {m : Int} (H : CT W B tb T ρ k) (hB : B ≤ W.heap.size) (hh : h.length = 32) (hp : TPut W tb T ρ h m W') : ∃ T' σ, CT W' B tb T' σ (kput k h m) ∧ Below B W W' ∧ PutS [] h m ρ σ T T' := by
  obtain ⟨T', σ, h1, h2, h3, h4⟩ := hp
  exact ⟨T', σ, ⟨h1, H.tk.put H.tt.wf hh h2, H.gt, fun j hj => (h3 j hj).elim (H.gb j) (Nat.le_trans hB), h2.num H.num⟩, h4.below hB (fun j hj => hj.elim (fun e => e ▸ H.gt) (H.gb j)), h2⟩
theorem CT.big (H : CT W B tb T ρ k) (hk : k.length ≤ 1000000) : T.ents.length ≤ 1000000 := by rw [H.tk.count H.tt.wf]; exact hk
end
theorem put_ct (W : World) (B tb : Nat) (T : Nd) (ρ : Nat → Nat) (k : En) (h : List UInt8) (m : Int) (hh : h.length = 32) (hm : 0 ≤ m ∧ m ≤ 1000000) (H : CT W B tb T ρ k) (hB : B ≤ W.heap.size) (hk : k.length ≤ 1000000) :
    Calls Tryz.prog 11 #[.pointer (some ⟨tb, 0, none⟩), .agg (hv h), .int .i64 m] W fun e w' => e = .returned (.bool true) ∧ ∃ T' σ, CT w' B tb T' σ (kput k h m) ∧ Below B W w' ∧ PutS [] h m ρ σ T T' :=
  (tput_to W tb T ρ h m hh hm H.tt (H.big hk)).mono fun _ _ hp => ⟨hp.1, H.put hB hh hp.2⟩
theorem count_ct (W : World) (B tb : Nat) (T : Nd) (ρ : Nat → Nat) (k : En) (H : CT W B tb T ρ k) :
    Calls Tryz.prog 17 #[.pointer (some ⟨tb, 0, none⟩)] W fun e w' => e = .returned (.int .i64 k.length) ∧ W = w' := by
  rw [← H.tk.count H.tt.wf]
  exact count_to9 W tb T ρ H.tt
theorem get_ct (W : World) (B tb : Nat) (T : Nd) (ρ : Nat → Nat) (k : En) (h : List UInt8) (hh : h.length = 32) (H : CT W B tb T ρ k) :
    Calls Tryz.prog 12 #[.pointer (some ⟨tb, 0, none⟩), .agg (hv h)] W fun e w' => e = .returned (.tuple #[.int .i64 (gnum (kget h k)), .bool (kget h k).isSome]) ∧ Below W.heap.size W w' := by
  rw [← H.tk.get H.tt.wf hh]
  exact get_to W tb T ρ h hh H.tt
theorem prefix_ct (W : World) (B tb : Nat) (T : Nd) (ρ : Nat → Nat) (k : En) (s : ByteArray) (H : CT W B tb T ρ k) :
    Calls Tryz.prog 13 #[.pointer (some ⟨tb, 0, none⟩), .string s] W fun e w' => e = .returned (.tuple #[.agg (hv (preL k s.data.toList).1), errOf (preL k s.data.toList).2]) ∧ Below W.heap.size W w' := by
  rw [← H.tk.pre H.tt.wf]
  exact prefix_to W tb T ρ s H.tt
theorem all_ct (W : World) (B tb : Nat) (T : Nd) (ρ : Nat → Nat) (k : En) (s : ByteArray) (M : Int) (hM : M ≤ 1000000) (H : CT W B tb T ρ k) :
    Calls Tryz.prog 18 #[.pointer (some ⟨tb, 0, none⟩), .string s, .int .i64 M] W fun e w' => ∃ v', e = .returned v' ∧ HOwn w' W.heap.size v' (allL k s.data.toList M) ∧ Below W.heap.size W w' := by
  rw [← H.tk.all H.tt.wf]
  exact all_to W tb T ρ s M hM H.tt

def hab : List UInt8 := 171 :: List.replicate 31 0
def hac : List UInt8 := 172 :: List.replicate 31 0
theorem hab_built : Tryz.prog.built 36 [(0, .int .u8 171)] = some (hv hab) := by kernel_rfl
theorem hac_built : Tryz.prog.built 36 [(0, .int .u8 172)] = some (hv hac) := by kernel_rfl
def kab : En := kput (kput [] hab 1) hac 2
theorem ex_a : preL kab [97] = (hz, 14) := by decide +kernel
theorem ex_b : preL kab [97, 98] = (hab, 0) := by decide +kernel
theorem khand9 (w : World) (k : Int) (h : k ≠ 0) (hg : Glob w) : Calls Tryz.prog 16 #[.iface 44 (.int .i64 k)] w fun e w' => e = .returned (.int .i64 k) ∧ Below w.heap.size w w' := by
  have := khand_any w k hg
  unfold errOf at this
  rw [if_neg h] at this
  exact this
theorem glob_below {B : Nat} {w w' : World} (h : Glob w) (hb : Below B w w') (hB : 0 < B) : Glob w' := by
  unfold Glob
  rw [World.cell?_of_block (w := w) (hb.block _ hB)]
  exact h
theorem Glob.lt9 {w : World} (h : Glob w) : 0 < w.heap.size := World.block_lt_of_cell? w _ h
/-- A hash laid in a variable of the call's own. -/
theorem var_hash (w : World) (h : List UInt8) (hh : h.length = 32) : Hid ((w.alloc (.cells hzer 36)).there w.heap.size 0 (hv h).size) := by
  have HT := there_row (heap_alloc_last w (.cells hzer 36))
  rw [show hzer.size = (hv h).size from by rw [hv_size, hh]; rfl] at HT
  exact Lib.hid HT
set_option maxRecDepth 20000 in
set_option maxHeartbeats 4000000 in
theorem known9_to (w : World) (hg : Glob w) : Calls Tryz.prog 9 #[] w fun e w' => e = .returned (.bool true) ∧ Below w.heap.size w w' := by
  have HG := Lib.hid hg
  have HGL := Lib.hid hg.lt9
  clear hg
  go_enter Tryz.func9, Tryz.ntmps9
  go_wp2_with fail
  refine (new_to9 w).mono ?_
  rintro e w1 ⟨rfl, b1, t1⟩
  have C1 := Lib.hid (CT.made t1)
  have B1 := Lib.hid b1
  clear b1 t1
  go_wp2_with (refine build_to (vals := #[(0, .int .u8 171)]) hab_built ?hv ?_; (case hv => simp [Act.eval]))
  refine (put_ct w1 w.heap.size w.heap.size _ _ _ hab 1 rfl (by decide) C1.out B1.out.size (by decide)).mono ?_
  rintro e w2 ⟨rfl, T2, σ2, c2, b2, _⟩
  have C2 := Lib.hid c2
  have B2 := Lib.hid (B1.out.trans b2)
  clear c2 b2 C1 B1
  go_wp2_with fail
  refine (put_ct w2 w.heap.size w.heap.size _ _ _ hac 2 rfl (by decide) C2.out B2.out.size (by decide)).mono ?_
  rintro e w3 ⟨rfl, T3, σ3, c3, b3, _⟩
  have C3 : Hid (CT w3 w.heap.size w.heap.size T3 σ3 kab) := Lib.hid c3
  have B3 := Lib.hid (B2.out.trans b3)
  clear c3 b3 C2 B2
  have hpa := prefix_ct w3 w.heap.size w.heap.size T3 σ3 kab ⟨#[97]⟩ C3.out
  rw [show (⟨#[97]⟩ : ByteArray).data.toList = [97] from rfl, ex_a] at hpa
  have HPA := Lib.hid hpa
  clear hpa
  go_wp2_with fail
  refine HPA.out.mono ?_
  rintro e w4 ⟨rfl, b4⟩
  have B4 := Lib.hid (B3.out.trans (b4.mono B3.out.size))
  have C4 := Lib.hid (C3.out.kb b4)
  have st4 := hst_cells hz rfl w4
  have c5 : CT (w4.alloc (.cells (hv hz) 36)) w.heap.size w.heap.size T3 σ3 kab := C4.out.kb ((Below.refl _ w4).alloc (Nat.le_refl _) _)
  have C5 := Lib.hid c5
  have B5 : Hid (Below w.heap.size w (w4.alloc (.cells (hv hz) 36))) := Lib.hid (B4.out.alloc B4.out.size _)
  clear b4 c5 C3 B3 HPA
  have hpb := fun W (hW : CT W w.heap.size w.heap.size T3 σ3 kab) => prefix_ct W w.heap.size w.heap.size T3 σ3 kab ⟨#[97, 98]⟩ hW
  rw [show (⟨#[97, 98]⟩ : ByteArray).data.toList = [97, 98] from rfl, ex_b, show errOf ((hab, 0) : List UInt8 × Int).2 = .nilIface from rfl] at hpb
  have HPB := Lib.hid hpb
  clear hpb
  go_wp2_with fail
  generalize w4.alloc (.cells (hv hz) 36) = w5 at *
  refine (HPB.out w5 C5.out).mono ?_
  rintro e w6 ⟨rfl, b6⟩
  have B6 := Lib.hid (B5.out.trans (b6.mono B5.out.size))
  have C6 := Lib.hid (C5.out.kb b6)
  have st6 := hst_cells hab rfl w6
  have C7 : Hid (CT (w6.alloc (.cells (hv hab) 36)) w.heap.size w.heap.size T3 σ3 kab) := Lib.hid (C6.out.kb ((Below.refl _ w6).alloc (Nat.le_refl _) _))
  have B7 : Hid (Below w.heap.size w (w6.alloc (.cells (hv hab) 36))) := Lib.hid (B6.out.alloc B6.out.size _)
  have R7 := Lib.hid (heap_alloc_last w6 (.cells (hv hab) 36))
  clear b6 C4 B4 HPB C5 B5 st4
  have heq : ∀ W, (heqS (hv hab) #[.int .u8 171, .int .u8 0, .int .u8 0, .int .u8 0, .int .u8 0, .int .u8 0, .int .u8 0, .int .u8 0, .int .u8 0, .int .u8 0, .int .u8 0, .int .u8 0, .int .u8 0, .int .u8 0, .int .u8 0, .int .u8 0, .int .u8 0, .int .u8 0, .int .u8 0, .int .u8 0, .int .u8 0, .int .u8 0, .int .u8 0, .int .u8 0, .int .u8 0, .int .u8 0, .int .u8 0, .int .u8 0, .int .u8 0, .int .u8 0, .int .u8 0, .int .u8 0]).run Tryz.prog W = .ok (.bool true) W := fun W => heq_hv (a := hab) (b := hab) rfl rfl W
  have HKI := Lib.hid (khand_any (w6.alloc (.cells (hv hab) 36)) 14 (glob_below HG.out B7.out HGL.out))
  have hcc := fun W (hW : CT W w.heap.size w.heap.size T3 σ3 kab) => count_ct W w.heap.size w.heap.size T3 σ3 kab hW
  rw [show ((kab.length : Nat) : Int) = 2 from rfl] at hcc
  have HCC := Lib.hid hcc
  clear hcc
  go_wp2_with (first
    | (go_at_call 16; refine HKI.out.mono ?_; rintro e w8 ⟨rfl, b8⟩; have B8 := Lib.hid (B7.out.trans (b8.mono B7.out.size)); have C8 := Lib.hid (C7.out.kb b8); have l8 := hld_row (q := hab) rfl ((b8.block _ (by simp)).trans R7.out); clear b8)
    | (go_at_call 17; refine (HCC.out _ C8.out).mono ?_; rintro e w' ⟨rfl, rfl⟩))
  go_ret
  exact ⟨rfl, B8.out⟩
end Go.Proofs.YtbpccbhlggcmfaaGreatDoor
