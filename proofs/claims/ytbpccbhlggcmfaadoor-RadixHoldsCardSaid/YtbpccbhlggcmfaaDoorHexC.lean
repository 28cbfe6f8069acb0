/- Comparison of hashes, Less, Begins, and the known sentence. No condition. -/
import Derived.Test.YtbpccbhlggcmfaaDoorHexT
import Derived.Test.YtbpccbhlggcmfaaDoorHexD
import Derived.Lib.BytesEntry
import Derived.Deep.QuietTactic
import Derived.BigQuiet
namespace Go.Proofs.YtbpccbhlggcmfaaDoor
open Go.RowKit

theorem nm_bytes (l : List UInt8) : (Lib.bytesOf (nmb l)).toArray = l.toArray := by
  have h := nm_str l
  have h2 : strOfNums (nmb l) = ⟨(Lib.bytesOf (nmb l)).toArray⟩ := by
    apply ByteArray.ext
    show (strOfNums (nmb l)).data = (Lib.bytesOf (nmb l)).toArray
    rfl
  rw [h2] at h
  exact congrArg ByteArray.data h
theorem run_bytes_hv {P : Program} (w : World) (l : List UInt8) (p n c : Nat) (hn : l.length = n) (h : w.rangeAt p 0 (us (nmb l))) : (Extern.Bytes.bytesOf (.slice (some ⟨p, 0, none⟩) n c)).run P w = .ok ⟨l.toArray⟩ w := by
  have hl := Lib.run_loadBytesX (P := P) w (nmb l) ⟨p, 0, none⟩ .empty (fun j x hj => by
    rw [Addr.add_lit]
    exact h j (.int .u8 x) (by simp [us, List.getElem?_map, hj]))
  rw [nm_length, hn, nm_bytes] at hl
  show (Extern.Bytes.loadBytes ⟨p, 0, none⟩ n .empty).run P w = _
  rw [hl, show ByteArray.empty.data = #[] from rfl, Array.empty_append]
theorem run_compare_hv {P : Program} (w : World) (x y : List UInt8) (p q n c m d : Nat) (hx : x.length = n) (hy : y.length = m) (hp : w.rangeAt p 0 (us (nmb x))) (hq : w.rangeAt q 0 (us (nmb y))) :
    (Extern.BytealgCompare.compare #[.slice (some ⟨p, 0, none⟩) n c, .slice (some ⟨q, 0, none⟩) m d]).run P w = .ok (.int .i64 (Lib.compareBytes x y)) w := by
  change Sem.run P (do pure (goInt (Extern.BytealgCompare.cmp (← Extern.Bytes.bytesOf (.slice (some ⟨p, 0, none⟩) n c)) (← Extern.Bytes.bytesOf (.slice (some ⟨q, 0, none⟩) m d))))) w = _
  simp only [Sem.run_bind, Sem.run_pure, Result.andThen, run_bytes_hv w x p n c hx hp, run_bytes_hv w y q m d hy hq, Lib.cmp_eq]
  rfl
theorem range_new' (w : World) (l : List UInt8) (t : TypeId) : (w.alloc (.cells (hv l) t)).rangeAt w.heap.size 0 (us (nmb l)) := by
  have := range_new w (hv l) t
  rwa [hv_list] at this
theorem range_keep {w w' : World} {p : Nat} {vs : List Value} (h : w.rangeAt p 0 vs) (hb : w'.heap[p]? = w.heap[p]?) : w'.rangeAt p 0 vs := fun j v hj => by
  rw [World.cell?_of_block (w := w) (a := ⟨p, 0 + j, none⟩) hb]; exact h j v hj

theorem range_drew {w : World} {n p : Nat} {vs : List Value} (h : w.rangeAt p 0 vs) : (w.drewN n).rangeAt p 0 vs := h
theorem begins_pre {s p : List UInt8} : (s.take p.length == p) = p.isPrefixOf s := by
  rw [Bool.eq_iff_iff, List.isPrefixOf_iff_prefix, beq_iff_eq, List.prefix_iff_eq_take]
  exact ⟨fun h => h.symm, fun h => h.symm⟩
theorem extract_list (s : List UInt8) (n : Nat) : ((⟨s.toArray⟩ : ByteArray).extract 0 n).toList = s.take n := by
  rw [ByteArray.toList_eq, ByteArray.data_extract]
  simp
theorem pre_long {s p : List UInt8} (h : ¬ p.length ≤ s.length) : p.isPrefixOf s = false := by
  cases hb : p.isPrefixOf s with
  | false => rfl
  | true => rw [List.isPrefixOf_iff_prefix] at hb; exact absurd hb.length_le h
theorem hasprefix0 (w : World) (s p : List UInt8) : Calls Tryd.prog 46 #[.string ⟨s.toArray⟩, .string ⟨p.toArray⟩] w fun e w' => e = .returned (.bool (p.isPrefixOf s)) ∧ w = w' := by
  have hs : (⟨s.toArray⟩ : ByteArray).size = s.length := rfl
  have hp : (⟨p.toArray⟩ : ByteArray).size = p.length := rfl
  by_cases h : p.length ≤ s.length
  · go_enter Tryd.func46, Tryd.ntmps46
    go_wp2
    go_ret
    exact ⟨ret_bool (by rw [extract_list, begins_pre]), rfl⟩
  · rw [pre_long h]
    go_enter Tryd.func46, Tryd.ntmps46
    go_wp2
    go_ret
    exact ⟨rfl, rfl⟩
theorem hasprefix_any (w : World) (s p : List UInt8) : Calls Tryd.prog 42 #[.string ⟨s.toArray⟩, .string ⟨p.toArray⟩] w fun e w' => e = .returned (.bool (p.isPrefixOf s)) ∧ w = w' := by
  have hc := fun w => hasprefix0 w s p
  generalize p.isPrefixOf s = r at *
  have HC := Lib.hid hc
  clear hc
  go_enter Tryd.func42, Tryd.ntmps42
  go_wp2_with (go_at_call 46; refine (HC.out _).mono ?_; rintro e w' ⟨rfl, rfl⟩)
  go_ret
  exact ⟨rfl, rfl⟩
attribute [local go_sem ↓] hld_open
theorem begins_to (w : World) (h p : List UInt8) (hl : h.length = 32) : Calls Tryd.prog 35 #[.agg (hv h), .string ⟨p.toArray⟩] w fun e w' => e = .returned (.bool (p.isPrefixOf (tx h))) ∧ Below w.heap.size w w' := by
  have hld := hld_row hl (heap_alloc_last w (.cells (hv h) 33))
  have BEL := Lib.hid ((Below.refl w.heap.size w).alloc (Nat.le_refl _) (.cells (hv h) 33))
  have HT := Lib.hid (text_to (w.alloc (.cells (hv h) 33)) h hl)
  have HP := Lib.hid (fun w => hasprefix_any w (tx h) p)
  generalize p.isPrefixOf (tx h) = r at *
  clear hl
  go_enter Tryd.func35, Tryd.ntmps35
  go_wp2_with (first
    | (go_at_call 26; refine HT.out.mono ?_; rintro e w1 ⟨rfl, b1⟩; have B1 := Lib.hid b1; clear b1)
    | (go_at_call 42; refine (HP.out _).mono ?_; rintro e w' ⟨rfl, rfl⟩))
  go_ret
  exact ⟨rfl, BEL.out.trans (B1.out.mono BEL.out.size)⟩
theorem less_dec (x y : List UInt8) : decide (Lib.compareBytes x y < 0) = Op.bytesLess x y := cmp_less x y
end Go.Proofs.YtbpccbhlggcmfaaDoor
