/- Hash: any number as one of sixty hashes; a hash held against a hash. No condition. -/
import Derived.Test.YtageblggakfbdaaDoorOopsDef
import Derived.Test.YtageblggakfbdaaDoorGenPick
namespace Go.Proofs.YtageblggakfbdaaDoor
open Go.RowKit

theorem index_six (cs : Array Value) (hc : cs.size = 6) (k : Int) (w : World) (h0 : 0 ≤ k) (h1 : k < 6) : (Instr.index 100 (.agg cs) (.int .i64 k)).run Tryd.prog w = .ok (cs.getD k.toNat undef) w := by
  have hk : k.toNat < cs.size := by omega
  simp [Instr.index, asIntOf, run_underlying Tryd.underlying100, h0, h1, part, go_sem, hk]

/-- The first byte of the hash of k. -/
def sig (k : Int) : Int := [171, 171, 160, 18, 254, 171].getD (k % 6).toNat 0
theorem index_sig (k : Int) (w : World) : (Instr.index 100 (.agg #[.int .u8 171, .int .u8 171, .int .u8 160, .int .u8 18, .int .u8 254, .int .u8 171]) (.int .i64 (k % 6))).run Tryd.prog w = .ok (.int .u8 (sig k)) w := by
  rw [index_six _ rfl _ _ (by omega) (by omega)]
  unfold sig
  rcases (show k % 6 = 0 ∨ k % 6 = 1 ∨ k % 6 = 2 ∨ k % 6 = 3 ∨ k % 6 = 4 ∨ k % 6 = 5 from by omega) with h | h | h | h | h | h <;> rw [h] <;> rfl

/-- The hash of k. -/
def hshk (k : Int) : Array Value := #[.int .u8 (sig k), .int .u8 (k / 6 * 16), .int .u8 (k * 7 % 256), .int .u8 0, .int .u8 0, .int .u8 0, .int .u8 0, .int .u8 0, .int .u8 0, .int .u8 0, .int .u8 0, .int .u8 0, .int .u8 0, .int .u8 0, .int .u8 0, .int .u8 0, .int .u8 0, .int .u8 0, .int .u8 0, .int .u8 0, .int .u8 0, .int .u8 0, .int .u8 0, .int .u8 0, .int .u8 0, .int .u8 0, .int .u8 0, .int .u8 0, .int .u8 0, .int .u8 0, .int .u8 0, .int .u8 k]
/-- The hash of n, as the hand makes it. -/
def hsh (n : Int) : Array Value := hshk (n % 60)
theorem hsh_size (n : Int) : (hsh n).size = 32 := rfl
theorem hsh_one (n : Int) : (hsh n).all (·.oneCell') = true := by simp [hsh, hshk, Value.oneCell']

theorem range_two (w : World) (a b : Array Value) (t u : TypeId) : ((w.alloc (.cells a t)).alloc (.cells b u)).rangeAt (w.heap.size + 1) 0 b.toList := by
  simpa using range_new (w.alloc (.cells a t)) b u
theorem there_two (w : World) (a b : Array Value) (t u : TypeId) : ((w.alloc (.cells a t)).alloc (.cells b u)).there w.heap.size 0 a.size :=
  there_row (t := t) (by rw [Below.heap_alloc _ _ _ (by simp)]; exact heap_alloc_last w _)

set_option maxRecDepth 20000 in
set_option maxHeartbeats 1000000 in
theorem hash_any (w : World) (n : Int) : Calls Tryd.prog 20 #[.int .i64 n] w fun e w' => e = .returned (.agg (hsh n)) ∧ Below w.heap.size w w' := by
  have hix := index_sig
  have hp0 : 0 ≤ n % 60 := Int.emod_nonneg _ (by decide)
  have hp1 : n % 60 < 60 := Int.emod_lt_of_pos _ (by decide)
  unfold hsh
  have HN : Hid (n % 60 = n % 60) := Lib.hid rfl
  generalize hk : n % 60 = k at *
  have HK := Lib.hid hk
  clear hk HN
  have HR := Lib.hid (range_two w zeros (hshk k) 23 23)
  have HT : Hid (((w.alloc (.cells zeros 23)).alloc (.cells (hshk k) 23)).there w.heap.size 0 (hshk k).size) := Lib.hid (there_two w zeros (hshk k) 23 23)
  go_enter Tryd.func20, Tryd.ntmps20
  go_wp2_with (first
    | (go_at_call 19; refine (pick_to _ _ 60 k (by decide) (by decide) HK.out).mono ?_; rintro e w' ⟨rfl, rfl⟩)
    | (refine load_to HR.out Tryd.underlying23 rfl (size_hash' (hshk k) rfl) ?hx ?_; (case hx => rfl); refine store_to HT.out (size_hash (hshk k) rfl) (by simp [hshk, Value.oneCell']) ?hx ?hy ?_; (case hx => rfl); (case hy => simp [Act.put, Act.eval])))
  have HB : Below w.heap.size w (((w.alloc (.cells zeros 23)).alloc (.cells (hshk k) 23)).setCells w.heap.size 0 (hshk k).toList) :=
    (((Only.refl (fun k => w.heap.size ≤ k) w).alloc _).alloc _ |>.setCells (b := w.heap.size) (Nat.le_refl _) _ 0).below (Nat.le_refl _) (fun _ h => h)
  have hl := loaded (P := Tryd.prog) (t := 23) (q := hshk k) HT.out Tryd.underlying23 rfl (size_hash (hshk k) rfl)
  refine bodyPost_ret (v := .agg (hshk k)) (w := ((w.alloc (.cells zeros 23)).alloc (.cells (hshk k) 23)).setCells w.heap.size 0 (hshk k).toList) ?_ rfl ⟨rfl, HB⟩
  generalize ((w.alloc (.cells zeros 23)).alloc (.cells (hshk k) 23)).setCells w.heap.size 0 (hshk k).toList = W3 at hl ⊢
  simp only [results, Tryd.results20]
  simp [hl, asAddr, Act.put]

end Go.Proofs.YtageblggakfbdaaDoor
