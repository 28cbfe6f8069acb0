/- Text: the 64 digits of a hash. No condition. · Digit, IsPrefix: the program's and the reference's. No condition. · Comparison of hashes, Less, Begins, and the known sentence. No condition. · Two hashes held against each other by '==' and '!='. No condition. -/
import Derived.Test.YthfkmfepeafgjaaHexH
import Derived.Lib.VarintBits
import Derived.Deep.RegionWith
import Derived.Lib.BytesEntry
import Derived.Deep.QuietTactic
import Derived.BigQuiet
import Derived.ChangeKeysEq
namespace Go.Proofs.Ythfkmfepeafgjaa
open Go.RowKit

/-- The digit of a value below 16, as a number. -/
def dgi (x : Int) : Int := if x < 10 then 48 + x else 87 + x
theorem dgi_dg (n : Nat) (h : n < 16) : dgi (n : Int) = ((dg n).toNat : Int) := by
  rw [dg_nat n h]; unfold dgi
  by_cases hn : n < 10
  · rw [if_pos hn, if_pos (by omega)]
  · rw [if_neg hn, if_neg (by omega)]
theorem ret_u8 {a b : Int} (h : a = b) : Ending.returned (.int .u8 a) = .returned (.int .u8 b) := by rw [h]
theorem u8_and15' {x : Int} (h₀ : 0 ≤ x) (h₁ : x < 256) : bits .and .u8 x 15 = x % 16 := bits_mask .u8 8 (by decide) wraps_u8 4 (by decide) x h₀ h₁
theorem hi_ok' (x : Int) (h0 : 0 ≤ x) (h1 : x < 256) : 0 ≤ x / 16 ∧ x / 16 < 16 ∧ 0 ≤ x % 16 ∧ x % 16 < 16 := by omega
theorem u8_range (b : UInt8) : 0 ≤ (b.toNat : Int) ∧ (b.toNat : Int) < 256 := by have := b.toNat_lt; omega
theorem tx_step {l : List UInt8} {k : Nat} (hk : k < l.length) : us (nmb (tx (l.take (k + 1)))) = us (nmb (tx (l.take k))) ++ [.int .u8 (dgi ((l[k].toNat : Int) / 16)), .int .u8 (dgi ((l[k].toNat : Int) % 16))] := by
  have h := hi16 l[k]
  rw [tx_snoc hk, show ((l[k].toNat : Int) / 16) = ((l[k].toNat / 16 : Nat) : Int) from by omega, show ((l[k].toNat : Int) % 16) = ((l[k].toNat % 16 : Nat) : Int) from by omega, dgi_dg _ h.1, dgi_dg _ h.2]
  simp [us, nmb]

end Go.Proofs.Ythfkmfepeafgjaa
namespace Go.Proofs.Ythfkmfepeafgjaa
open Go.RowKit

/-- The value of a digit, of a number. -/
def udi (x : Int) : Int := if 48 ≤ x ∧ x ≤ 57 then x - 48 else if 97 ≤ x ∧ x ≤ 102 then x - 87 else -1
theorem udi_und (c : UInt8) : udi (c.toNat : Int) = und c := by
  unfold udi und
  by_cases h1 : 48 ≤ c.toNat ∧ c.toNat ≤ 57
  · rw [if_pos h1, if_pos (by omega)]
  · rw [if_neg h1, if_neg (by omega)]
    by_cases h2 : 97 ≤ c.toNat ∧ c.toNat ≤ 102
    · rw [if_pos h2, if_pos (by omega)]
    · rw [if_neg h2, if_neg (by omega)]
theorem ret_i64 {a b : Int} (h : a = b) : Ending.returned (.int .i64 a) = .returned (.int .i64 b) := by rw [h]
theorem ret_bool {a b : Bool} (h : a = b) : Ending.returned (.bool a) = .returned (.bool b) := by rw [h]
theorem udi_num {x : Int} (h : 48 ≤ x ∧ x ≤ 57) : udi x = x - 48 := if_pos h
theorem udi_let {x : Int} (h : 97 ≤ x ∧ x ≤ 102) : udi x = x - 87 := by unfold udi; rw [if_neg (by omega), if_pos h]
theorem udi_no {x : Int} (h : x < 48 ∨ 57 < x ∧ x < 97 ∨ 102 < x) : udi x = -1 := by unfold udi; rw [if_neg (by omega), if_neg (by omega)]

theorem digs_nil : digs [] = true := rfl
theorem digs_snoc {s : ByteArray} {k : Nat} (h : k < s.size) : digs (s.data.toList.take (k + 1)) = (digs (s.data.toList.take k) && decide (0 ≤ und s[k])) := by
  have e : s.data.toList.take (k + 1) = s.data.toList.take k ++ [s[k]] := by
    rw [List.take_succ_eq_append_getElem (by simpa using h)]; rfl
  unfold digs
  rw [e, List.all_append]
  simp
theorem digs_cut {l : List UInt8} {k : Nat} (h : digs (l.take k) = false) : digs l = false := by
  unfold digs at h ⊢
  rw [List.all_eq_false] at h ⊢
  obtain ⟨x, hx, hn⟩ := h
  exact ⟨x, List.mem_of_mem_take hx, hn⟩
theorem pre_lo {s : ByteArray} (h : s.size < 1) : pre s.data.toList = false := by
  have : s.data.toList.length = s.size := rfl
  unfold pre; rw [decide_eq_false (by omega)]; rfl
theorem pre_hi {s : ByteArray} (h : 64 < s.size) : pre s.data.toList = false := by
  have : s.data.toList.length = s.size := rfl
  unfold pre; rw [decide_eq_false (p := s.data.toList.length ≤ 64) (by omega)]; simp
theorem pre_no {s : ByteArray} (h : digs s.data.toList = false) : pre s.data.toList = false := by unfold pre; rw [h]; simp
theorem pre_yes {s : ByteArray} (h0 : 1 ≤ s.size) (h1 : s.size ≤ 64) (h : digs s.data.toList = true) : pre s.data.toList = true := by
  have : s.data.toList.length = s.size := rfl
  unfold pre; rw [h, decide_eq_true (by omega), decide_eq_true (by omega)]; rfl

end Go.Proofs.Ythfkmfepeafgjaa
namespace Go.Proofs.Ythfkmfepeafgjaa
open Go.RowKit

theorem nm_bytes (l : List UInt8) : (Lib.bytesOf (nmb l)).toArray = l.toArray := by
  have h := nm_str l
  have h2 : strOfNums (nmb l) = ⟨(Lib.bytesOf (nmb l)).toArray⟩ := by
    apply ByteArray.ext
    show (strOfNums (nmb l)).data = (Lib.bytesOf (nmb l)).toArray
    rfl
  rw [h2] at h
  exact congrArg ByteArray.data h
theorem run_bytes_hv {P : Program} (w : World) (l : List UInt8) (p n c : Nat) (hn : l.length = n) (h : w.rangeAt p 0 (us (nmb l))) : (Extern.Bytes.bytesOf (.slice (some ⟨p, 0, none⟩) n c)).run P w = .ok ⟨l.toArray⟩ w := by
  have hl := Lib.run_loadBytesX (P := P) w (nmb l) ⟨p, 0, none⟩ .empty (fun j x hj => by
    rw [Addr.add_lit]
    exact h j (.int .u8 x) (by simp [us, List.getElem?_map, hj]))
  rw [nm_length, hn, nm_bytes] at hl
  show (Extern.Bytes.loadBytes ⟨p, 0, none⟩ n .empty).run P w = _
  rw [hl, show ByteArray.empty.data = #[] from rfl, Array.empty_append]
theorem run_compare_hv {P : Program} (w : World) (x y : List UInt8) (p q n c m d : Nat) (hx : x.length = n) (hy : y.length = m) (hp : w.rangeAt p 0 (us (nmb x))) (hq : w.rangeAt q 0 (us (nmb y))) :
    (Extern.BytealgCompare.compare #[.slice (some ⟨p, 0, none⟩) n c, .slice (some ⟨q, 0, none⟩) m d]).run P w = .ok (.int .i64 (Lib.compareBytes x y)) w := by
  change Sem.run P (do pure (goInt (Extern.BytealgCompare.cmp (← Extern.Bytes.bytesOf (.slice (some ⟨p, 0, none⟩) n c)) (← Extern.Bytes.bytesOf (.slice (some ⟨q, 0, none⟩) m d))))) w = _
  simp only [Sem.run_bind, Sem.run_pure, Result.andThen, run_bytes_hv w x p n c hx hp, run_bytes_hv w y q m d hy hq, Lib.cmp_eq]
  rfl
set_option maxRecDepth 20000 in
theorem bcmp_any (w : World) (x y : List UInt8) (p q n c m d : Nat) (hx : x.length = n) (hy : y.length = m) (hp : w.rangeAt p 0 (us (nmb x))) (hq : w.rangeAt q 0 (us (nmb y))) :
    Calls Try.prog 78 #[.slice (some ⟨p, 0, none⟩) n c, .slice (some ⟨q, 0, none⟩) m d] w fun e w' => e = .returned (.int .i64 (Lib.compareBytes x y)) ∧ w = w' := by
  have hrun := run_compare_hv (P := Try.prog) w x y p q n c m d hx hy hp hq
  generalize Lib.compareBytes x y = r at *
  have HRUN := Lib.hid hrun
  clear hrun hp hq hx hy
  go_enter Try.func78, Try.ntmps78
  go_wp2
  rw [run_callFunc_extern Try.func89 (by kernel_rfl) (by kernel_rfl) (by kernel_rfl) (e := Extern.BytealgCompare.compare) (by kernel_rfl), HRUN.out]
  simp only [Result.andThen]
  rw [Oper.upon_value]
  go_wp2
  go_ret
  exact ⟨rfl, rfl⟩

theorem range_new' (w : World) (l : List UInt8) (t : TypeId) : (w.alloc (.cells (hv l) t)).rangeAt w.heap.size 0 (us (nmb l)) := by
  have := range_new w (hv l) t
  rwa [hv_list] at this
theorem range_keep {w w' : World} {p : Nat} {vs : List Value} (h : w.rangeAt p 0 vs) (hb : w'.heap[p]? = w.heap[p]?) : w'.rangeAt p 0 vs := fun j v hj => by
  rw [World.cell?_of_block (w := w) (a := ⟨p, 0 + j, none⟩) hb]; exact h j v hj

theorem range_drew {w : World} {n p : Nat} {vs : List Value} (h : w.rangeAt p 0 vs) : (w.drewN n).rangeAt p 0 vs := h
theorem compare_to (w : World) (x y : List UInt8) (hx : x.length = 32) (hy : y.length = 32) : Calls Try.prog 69 #[.agg (hv x), .agg (hv y)] w fun e w' =>
    e = .returned (.int .i64 (Lib.compareBytes x y)) ∧ ∃ q, w' = ((w.alloc (.cells (hv x) 28)).alloc (.cells (hv y) 28)).drewN q := by
  have h1 := range_new' w x 28
  have h2 := range_new' (w.alloc (.cells (hv x) 28)) y 28
  have h3 : ((w.alloc (.cells (hv x) 28)).alloc (.cells (hv y) 28)).rangeAt w.heap.size 0 (us (nmb x)) := range_keep h1 (Below.heap_alloc _ _ _ (by simp))
  rw [show (w.alloc (.cells (hv x) 28)).heap.size = w.heap.size + 1 from by simp] at h2
  have H2 := Lib.hid h2
  have H3 := Lib.hid h3
  have HX := Lib.hid hx
  have HY := Lib.hid hy
  clear h1 h2 h3 hx hy
  go_enter Try.func69, Try.ntmps69
  go_wp2_with fail
  go_quiet ((go_at_call 78; exact Calls.quiet_of_same ((bcmp_any (World.drewN _ _) x y _ _ _ _ _ _ HX.out HY.out (range_drew H3.out) (range_drew H2.out)).mono fun _ _ h => ⟨h.1, h.2.symm⟩)))
  go_wp2
  go_ret
  exact ⟨rfl, _, rfl⟩

theorem begins_pre {s p : List UInt8} : (s.take p.length == p) = p.isPrefixOf s := by
  rw [Bool.eq_iff_iff, List.isPrefixOf_iff_prefix, beq_iff_eq, List.prefix_iff_eq_take]
  exact ⟨fun h => h.symm, fun h => h.symm⟩
theorem extract_list (s : List UInt8) (n : Nat) : ((⟨s.toArray⟩ : ByteArray).extract 0 n).toList = s.take n := by
  rw [ByteArray.toList_eq, ByteArray.data_extract]
  simp
theorem pre_long {s p : List UInt8} (h : ¬ p.length ≤ s.length) : p.isPrefixOf s = false := by
  cases hb : p.isPrefixOf s with
  | false => rfl
  | true => rw [List.isPrefixOf_iff_prefix] at hb; exact absurd hb.length_le h
attribute [local go_sem ↓] hld_open
theorem less_dec (x y : List UInt8) : decide (Lib.compareBytes x y < 0) = Op.bytesLess x y := cmp_less x y
end Go.Proofs.Ythfkmfepeafgjaa
namespace Go.Proofs.Ythfkmfepeafgjaa
open Go.RowKit

/-- Two hashes are compared: one step. -/
noncomputable def heqS (a b : Array Value) : Sem Value := binOp .eql 28 (.agg a) (.agg b)
theorem heq_open (a b : Array Value) : binOp .eql 28 (.agg a) (.agg b) = heqS a b := rfl
noncomputable def hneS (a b : Array Value) : Sem Value := binOp .neq 28 (.agg a) (.agg b)
theorem hne_open (a b : Array Value) : binOp .neq 28 (.agg a) (.agg b) = hneS a b := rfl
theorem heq_guard (x y : Operand) (a b : Array Value) (w : World) : (eqGuard .eql 28 x y (.agg a) (.agg b)).run Try.prog w = .ok () w := run_eqGuard_agg _ _ _ _ _ _ _ (by kernel_rfl)
theorem hne_guard (x y : Operand) (a b : Array Value) (w : World) : (eqGuard .neq 28 x y (.agg a) (.agg b)).run Try.prog w = .ok () w := run_eqGuard_agg _ _ _ _ _ _ _ (by kernel_rfl)

theorem u8_beq (x y : UInt8) : (((x.toNat : Int)) == ((y.toNat : Int))) = (x == y) := by
  rw [Bool.eq_iff_iff, beq_iff_eq, beq_iff_eq]
  constructor
  · intro h; exact UInt8.toNat_inj.1 (by omega)
  · intro h; rw [h]
theorem items_hv (a b : List UInt8) (ha : a.length = 32) (hb : b.length = 32) (w : World) : ∀ is : List Nat, (∀ j ∈ is, j < 32) →
    (Op.eqItems 9999 5 1 (hv a) (hv b) is).run Try.prog w = .ok (is.all fun j => a.getD j 0 == b.getD j 0) w := by
  intro is
  induction is with
  | nil => intro _; simp [Op.eqItems]
  | cons j is ih =>
    intro h
    have hj : j < 32 := h j (List.mem_cons_self ..)
    have hja : j < a.length := by omega
    have hjb : j < b.length := by omega
    have p1 : (part 5 (hv a) (j * 1)).run Try.prog w = .ok (.int .u8 (a[j].toNat : Int)) w := run_part_plain w (by kernel_rfl) (by rw [Nat.mul_one]; exact hv_get hja)
    have p2 : (part 5 (hv b) (j * 1)).run Try.prog w = .ok (.int .u8 (b[j].toNat : Int)) w := run_part_plain w (by kernel_rfl) (by rw [Nat.mul_one]; exact hv_get hjb)
    have he := run_equalIn_int (P := Try.prog) w 9998 5 .u8 .u8 (a[j].toNat : Int) (b[j].toNat : Int) Try.underlying5
    simp only [Op.eqItems, Sem.run_bind, p1, p2, Result.andThen_ok, he, u8_beq]
    rw [List.all_cons, show a.getD j 0 = a[j] from by simp [List.getD, hja], show b.getD j 0 = b[j] from by simp [List.getD, hjb]]
    cases hc : a[j] == b[j] with
    | false => simp
    | true => simpa using ih fun k hk => h k (List.mem_cons_of_mem _ hk)
theorem all_eq (a b : List UInt8) (ha : a.length = 32) (hb : b.length = 32) : ((List.range 32).all fun j => a.getD j 0 == b.getD j 0) = decide (a = b) := by
  rw [Bool.eq_iff_iff, decide_eq_true_eq, List.all_eq_true]
  constructor
  · intro h
    refine List.ext_getElem (by omega) fun j h1 h2 => ?_
    have := h j (List.mem_range.2 (by omega))
    rw [beq_iff_eq, show a.getD j 0 = a[j] from by simp [List.getD, h1], show b.getD j 0 = b[j] from by simp [List.getD, h2]] at this
    exact this
  · rintro rfl j _; simp
theorem equal_hv (a b : List UInt8) (ha : a.length = 32) (hb : b.length = 32) (w : World) : (Op.equalIn 10000 28 (.agg (hv a)) (.agg (hv b))).run Try.prog w = .ok (decide (a = b)) w := by
  obtain ⟨i, hi⟩ : ∃ i, Try.prog.info? 5 = some i := by
    cases h : Try.prog.info? 5 with
    | none => have := u8info; rw [h] at this; cases this
    | some i => exact ⟨i, rfl⟩
  have hc : Try.prog.cellsOf 5 = 1 := by kernel_rfl
  rw [run_equalIn_array w 9999 (hv a) (hv b) Try.underlying28 hi, hc, items_hv a b ha hb w _ (fun j hj => List.mem_range.1 hj), all_eq a b ha hb]
theorem heq_hv {a b : List UInt8} (ha : a.length = 32) (hb : b.length = 32) (w : World) : (heqS (hv a) (hv b)).run Try.prog w = .ok (.bool (decide (a = b))) w := by
  show (binOp .eql 28 (.agg (hv a)) (.agg (hv b))).run Try.prog w = _
  rw [run_eql_struct, equal_hv a b ha hb]
  rfl
theorem hne_hv {a b : List UInt8} (ha : a.length = 32) (hb : b.length = 32) (w : World) : (hneS (hv a) (hv b)).run Try.prog w = .ok (.bool (!decide (a = b))) w := by
  show (binOp .neq 28 (.agg (hv a)) (.agg (hv b))).run Try.prog w = _
  rw [run_neq_struct, equal_hv a b ha hb]
  rfl
end Go.Proofs.Ythfkmfepeafgjaa
