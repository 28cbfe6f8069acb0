/- Hashes as values: what a hash's cells are, how they are read, and Hash: any number as one of sixty hashes. No condition. -/
import Derived.Test.YtbpccbhlggcmfaaDoorHexM
import Derived.Test.YtbpccbhlggcmfaaDoorGenOps
import Derived.Test.YtbpccbhlggcmfaaDoorGenPick
namespace Go.Proofs.YtbpccbhlggcmfaaDoor
open Go.RowKit

/-- A hash's cells. -/
def hv (l : List UInt8) : Array Value := (us (nmb l)).toArray
theorem hv_size (l : List UInt8) : (hv l).size = l.length := by simp [hv, us, nmb]
theorem hv_list (l : List UInt8) : (hv l).toList = us (nmb l) := by simp [hv]
theorem hv_get {l : List UInt8} {j : Nat} (h : j < l.length) : (hv l)[j]? = some (.int .u8 (l[j].toNat : Int)) := by simp [hv, us, nmb, h]
theorem hv_getD {l : List UInt8} {j : Nat} (h : j < l.length) (d : Value) : (hv l).getD j d = .int .u8 (l[j].toNat : Int) := by
  have := hv_get h
  simp only [Array.getD_eq_getD_getElem?, this, Option.getD_some]
theorem hv_one (l : List UInt8) : (hv l).all (·.oneCell') = true := by simp [hv, us, Value.oneCell']
theorem us_inj : ∀ {a b : List UInt8}, us (nmb a) = us (nmb b) → a = b
  | [], [], _ => rfl
  | [], _ :: _, h => by cases h
  | _ :: _, [], h => by cases h
  | x :: a, y :: b, h => by
    simp only [nmb, us, List.map_cons, List.cons.injEq, Value.int.injEq, true_and] at h
    have e : x = y := UInt8.toNat_inj.1 (by omega)
    rw [e, us_inj (a := a) (b := b) h.2]
theorem hv_inj {a b : List UInt8} (h : hv a = hv b) : a = b := us_inj (by rw [← hv_list, ← hv_list, h])

theorem hinfo (h : Array Value) (hs : h.size = 32) : (Tryd.prog.info? 33).map (·.size) = some h.size := by rw [hs]; kernel_rfl
theorem hinfo' (h : Array Value) (hs : h.size = 32) : (Tryd.prog.info? 33).map (·.size) = some h.toList.length := by rw [Array.length_toList]; exact hinfo h hs
/-- The hash of zeros. -/
def hz : List UInt8 := [0, 0, 0, 0, 0, 0, 0, 0, 0, 0, 0, 0, 0, 0, 0, 0, 0, 0, 0, 0, 0, 0, 0, 0, 0, 0, 0, 0, 0, 0, 0, 0]
def hzer : Array Value := #[.int .u8 0, .int .u8 0, .int .u8 0, .int .u8 0, .int .u8 0, .int .u8 0, .int .u8 0, .int .u8 0, .int .u8 0, .int .u8 0, .int .u8 0, .int .u8 0, .int .u8 0, .int .u8 0, .int .u8 0, .int .u8 0, .int .u8 0, .int .u8 0, .int .u8 0, .int .u8 0, .int .u8 0, .int .u8 0, .int .u8 0, .int .u8 0, .int .u8 0, .int .u8 0, .int .u8 0, .int .u8 0, .int .u8 0, .int .u8 0, .int .u8 0, .int .u8 0]
theorem hz_hv : hv hz = hzer := rfl

theorem index_hash (cs : Array Value) (hc : cs.size = 32) (k : Int) (w : World) (h0 : 0 ≤ k) (h1 : k < 32) : (Instr.index 33 (.agg cs) (.int .i64 k)).run Tryd.prog w = .ok (cs.getD k.toNat undef) w := by
  have hk : k.toNat < cs.size := by omega
  simp [Instr.index, asIntOf, run_underlying Tryd.underlying33, h0, h1, part, go_sem, hk]
theorem index_hv {l : List UInt8} (hl : l.length = 32) (k : Nat) (w : World) (hk : k < l.length) : (Instr.index 33 (.agg (hv l)) (.int .i64 k)).run Tryd.prog w = .ok (.int .u8 (l[k].toNat : Int)) w := by
  rw [index_hash _ (by rw [hv_size, hl]) _ _ (by omega) (by omega), Int.toNat_natCast, hv_getD hk]

/-- A hash is loaded: one step. -/
noncomputable def hld (a : Addr) : Sem Value := loadVar 33 a
theorem hld_open (a : Addr) : loadVar 33 a = hld a := rfl
theorem hld_range {w : World} {p o : Nat} {q : List UInt8} (hs : q.length = 32) (hp : w.rangeAt p o (us (nmb q))) : (hld ⟨p, o, none⟩).run Tryd.prog w = .ok (.agg (hv q)) w := by
  have := run_loadVar_mid (P := Tryd.prog) w p o 33 (us (nmb q)) _ hp Tryd.underlying33 rfl (by rw [← hv_list]; exact hinfo' (hv q) (by rw [hv_size, hs]))
  exact this
theorem hld_row {w : World} {p : Nat} {q : List UInt8} {t : TypeId} (hs : q.length = 32) (hp : w.heap[p]? = some (.cells (hv q) t (0, 0))) : (hld ⟨p, 0, none⟩).run Tryd.prog w = .ok (.agg (hv q)) w :=
  hld_range hs (by have := range_row hp; rwa [hv_list] at this)
theorem hst_cells (q : List UInt8) (hs : q.length = 32) (w : World) :
    (storeCells ⟨w.heap.size, 0, none⟩ (hv q).toList).run Tryd.prog (w.alloc (.cells #[.int .u8 0, .int .u8 0, .int .u8 0, .int .u8 0, .int .u8 0, .int .u8 0, .int .u8 0, .int .u8 0, .int .u8 0, .int .u8 0, .int .u8 0, .int .u8 0, .int .u8 0, .int .u8 0, .int .u8 0, .int .u8 0, .int .u8 0, .int .u8 0, .int .u8 0, .int .u8 0, .int .u8 0, .int .u8 0, .int .u8 0, .int .u8 0, .int .u8 0, .int .u8 0, .int .u8 0, .int .u8 0, .int .u8 0, .int .u8 0, .int .u8 0, .int .u8 0] 33)) = .ok () (w.alloc (.cells (hv q) 33)) :=
  run_storeCells_new (P := Tryd.prog) w 33 hzer (hv q) (hinfo _ (by rw [hv_size, hs])) (by rw [hv_size, hs]; rfl) (hv_one q)

theorem hbuilt : Tryd.prog.built 33 [] = some hzer := by kernel_rfl

section
theorem index_six' (cs : Array Value) (hc : cs.size = 6) (k : Int) (w : World) (h0 : 0 ≤ k) (h1 : k < 6) : (Instr.index 71 (.agg cs) (.int .i64 k)).run Tryd.prog w = .ok (cs.getD k.toNat undef) w := by
  have hk : k.toNat < cs.size := by omega
  simp [Instr.index, asIntOf, run_underlying Tryd.underlying71, h0, h1, part, go_sem, hk]
/-- The first byte of the hash of k. -/
def hsig (k : Int) : Int := [171, 171, 160, 18, 254, 171].getD (k % 6).toNat 0
theorem index_hsig (k : Int) (w : World) : (Instr.index 71 (.agg #[.int .u8 171, .int .u8 171, .int .u8 160, .int .u8 18, .int .u8 254, .int .u8 171]) (.int .i64 (k % 6))).run Tryd.prog w = .ok (.int .u8 (hsig k)) w := by
  rw [index_six' _ rfl _ _ (by omega) (by omega)]
  unfold hsig
  rcases (show k % 6 = 0 ∨ k % 6 = 1 ∨ k % 6 = 2 ∨ k % 6 = 3 ∨ k % 6 = 4 ∨ k % 6 = 5 from by omega) with h | h | h | h | h | h <;> rw [h] <;> rfl
theorem hsig_range (k : Int) : 0 ≤ hsig k ∧ hsig k < 256 := by
  unfold hsig
  rcases (show k % 6 = 0 ∨ k % 6 = 1 ∨ k % 6 = 2 ∨ k % 6 = 3 ∨ k % 6 = 4 ∨ k % 6 = 5 from by omega) with h | h | h | h | h | h <;> rw [h] <;> decide

/-- The hash of k. -/
def hkq (k : Int) : Array Value := #[.int .u8 (hsig k), .int .u8 (k / 6 * 16), .int .u8 (k * 7 % 256), .int .u8 0, .int .u8 0, .int .u8 0, .int .u8 0, .int .u8 0, .int .u8 0, .int .u8 0, .int .u8 0, .int .u8 0, .int .u8 0, .int .u8 0, .int .u8 0, .int .u8 0, .int .u8 0, .int .u8 0, .int .u8 0, .int .u8 0, .int .u8 0, .int .u8 0, .int .u8 0, .int .u8 0, .int .u8 0, .int .u8 0, .int .u8 0, .int .u8 0, .int .u8 0, .int .u8 0, .int .u8 0, .int .u8 k]
def u8o (x : Int) : UInt8 := UInt8.ofNat x.toNat
def hkl (k : Int) : List UInt8 := [u8o (hsig k), u8o (k / 6 * 16), u8o (k * 7 % 256), 0, 0, 0, 0, 0, 0, 0, 0, 0, 0, 0, 0, 0, 0, 0, 0, 0, 0, 0, 0, 0, 0, 0, 0, 0, 0, 0, 0, u8o k]
/-- The hash of n, as the hand makes it. -/
def hh (n : Int) : List UInt8 := hkl (n % 60)
theorem hh_length (n : Int) : (hh n).length = 32 := rfl
theorem u8o_nat {x : Int} (h0 : 0 ≤ x) (h1 : x < 256) : ((u8o x).toNat : Int) = x := by
  unfold u8o
  rw [UInt8.toNat_ofNat']
  omega
theorem hkl_hv (k : Int) (h0 : 0 ≤ k) (h1 : k < 60) : hv (hkl k) = hkq k := by
  have h2 := hsig_range k
  simp only [hv, us, nmb, hkl, hkq, List.map_cons, List.map_nil, u8o_nat h2.1 h2.2, u8o_nat (x := k / 6 * 16) (by omega) (by omega), u8o_nat (x := k * 7 % 256) (by omega) (by omega), u8o_nat (x := k) (by omega) (by omega)]
  rfl

theorem range_two' (w : World) (a b : Array Value) (t u : TypeId) : ((w.alloc (.cells a t)).alloc (.cells b u)).rangeAt (w.heap.size + 1) 0 b.toList := by
  simpa using range_new (w.alloc (.cells a t)) b u
theorem there_two' (w : World) (a b : Array Value) (t u : TypeId) : ((w.alloc (.cells a t)).alloc (.cells b u)).there w.heap.size 0 a.size :=
  there_row (t := t) (by rw [Below.heap_alloc _ _ _ (by simp)]; exact heap_alloc_last w _)

set_option maxRecDepth 20000 in
set_option maxHeartbeats 1000000 in
theorem hash_to (w : World) (n : Int) : Calls Tryd.prog 16 #[.int .i64 n] w fun e w' => e = .returned (.agg (hv (hh n))) ∧ Below w.heap.size w w' := by
  have hix := index_hsig
  have hp0 : 0 ≤ n % 60 := Int.emod_nonneg _ (by decide)
  have hp1 : n % 60 < 60 := Int.emod_lt_of_pos _ (by decide)
  unfold hh
  rw [hkl_hv _ hp0 hp1]
  generalize hk : n % 60 = k at *
  have HK := Lib.hid hk
  clear hk
  have HR := Lib.hid (range_two' w hzer (hkq k) 33 33)
  have HT : Hid (((w.alloc (.cells hzer 33)).alloc (.cells (hkq k) 33)).there w.heap.size 0 (hkq k).size) := Lib.hid (there_two' w hzer (hkq k) 33 33)
  go_enter Tryd.func16, Tryd.ntmps16
  go_wp2_with (first
    | (go_at_call 6; refine (pick_to _ _ 60 k (by decide) (by decide) HK.out).mono ?_; rintro e w' ⟨rfl, rfl⟩)
    | (refine load_to HR.out Tryd.underlying33 rfl (hinfo' (hkq k) rfl) ?hx ?_; (case hx => rfl); refine store_to HT.out (hinfo (hkq k) rfl) (by simp [hkq, Value.oneCell']) ?hx ?hy ?_; (case hx => rfl); (case hy => simp [Act.put, Act.eval])))
  have HB : Below w.heap.size w (((w.alloc (.cells hzer 33)).alloc (.cells (hkq k) 33)).setCells w.heap.size 0 (hkq k).toList) :=
    (((Only.refl (fun k => w.heap.size ≤ k) w).alloc _).alloc _ |>.setCells (b := w.heap.size) (Nat.le_refl _) _ 0).below (Nat.le_refl _) (fun _ h => h)
  have hl := loaded (P := Tryd.prog) (t := 33) (q := hkq k) HT.out Tryd.underlying33 rfl (hinfo (hkq k) rfl)
  refine bodyPost_ret (v := .agg (hkq k)) (w := ((w.alloc (.cells hzer 33)).alloc (.cells (hkq k) 33)).setCells w.heap.size 0 (hkq k).toList) ?_ rfl ⟨rfl, HB⟩
  generalize ((w.alloc (.cells hzer 33)).alloc (.cells (hkq k) 33)).setCells w.heap.size 0 (hkq k).toList = W3 at hl ⊢
  simp only [results, Tryd.results16]
  simp [hl, asAddr, Act.put]
end
end Go.Proofs.YtbpccbhlggcmfaaDoor
