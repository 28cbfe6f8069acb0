/- Comparison of hashes, Less, Begins, and the known sentence. No condition. -/
import Derived.Test.YtemfblhlkonlpaaHexT
import Derived.Test.YtemfblhlkonlpaaHexD
import Derived.Lib.BytesEntry
import Derived.Deep.QuietTactic
import Derived.BigQuiet
namespace Go.Proofs.Ytemfblhlkonlpaa
open Go.RowKit

theorem nm_bytes (l : List UInt8) : (Lib.bytesOf (nmb l)).toArray = l.toArray := by
  have h := nm_str l
  have h2 : strOfNums (nmb l) = ⟨(Lib.bytesOf (nmb l)).toArray⟩ := by
    apply ByteArray.ext
    show (strOfNums (nmb l)).data = (Lib.bytesOf (nmb l)).toArray
    rfl
  rw [h2] at h
  exact congrArg ByteArray.data h
theorem run_bytes_hv {P : Program} (w : World) (l : List UInt8) (p n c : Nat) (hn : l.length = n) (h : w.rangeAt p 0 (us (nmb l))) : (Extern.Bytes.bytesOf (.slice (some ⟨p, 0, none⟩) n c)).run P w = .ok ⟨l.toArray⟩ w := by
  have hl := Lib.run_loadBytesX (P := P) w (nmb l) ⟨p, 0, none⟩ .empty (fun j x hj => by
    rw [Addr.add_lit]
    exact h j (.int .u8 x) (by simp [us, List.getElem?_map, hj]))
  rw [nm_length, hn, nm_bytes] at hl
  show (Extern.Bytes.loadBytes ⟨p, 0, none⟩ n .empty).run P w = _
  rw [hl, show ByteArray.empty.data = #[] from rfl, Array.empty_append]
theorem run_compare_hv {P : Program} (w : World) (x y : List UInt8) (p q n c m d : Nat) (hx : x.length = n) (hy : y.length = m) (hp : w.rangeAt p 0 (us (nmb x))) (hq : w.rangeAt q 0 (us (nmb y))) :
    (Extern.BytealgCompare.compare #[.slice (some ⟨p, 0, none⟩) n c, .slice (some ⟨q, 0, none⟩) m d]).run P w = .ok (.int .i64 (Lib.compareBytes x y)) w := by
  change Sem.run P (do pure (goInt (Extern.BytealgCompare.cmp (← Extern.Bytes.bytesOf (.slice (some ⟨p, 0, none⟩) n c)) (← Extern.Bytes.bytesOf (.slice (some ⟨q, 0, none⟩) m d))))) w = _
  simp only [Sem.run_bind, Sem.run_pure, Result.andThen, run_bytes_hv w x p n c hx hp, run_bytes_hv w y q m d hy hq, Lib.cmp_eq]
  rfl
set_option maxRecDepth 20000 in
theorem bcmp_any (w : World) (x y : List UInt8) (p q n c m d : Nat) (hx : x.length = n) (hy : y.length = m) (hp : w.rangeAt p 0 (us (nmb x))) (hq : w.rangeAt q 0 (us (nmb y))) :
    Calls Try.prog 51 #[.slice (some ⟨p, 0, none⟩) n c, .slice (some ⟨q, 0, none⟩) m d] w fun e w' => e = .returned (.int .i64 (Lib.compareBytes x y)) ∧ w = w' := by
  have hrun := run_compare_hv (P := Try.prog) w x y p q n c m d hx hy hp hq
  generalize Lib.compareBytes x y = r at *
  have HRUN := Lib.hid hrun
  clear hrun hp hq hx hy
  go_enter Try.func51, Try.ntmps51
  go_wp2
  rw [run_callFunc_extern Try.func68 (by kernel_rfl) (by kernel_rfl) (by kernel_rfl) (e := Extern.BytealgCompare.compare) (by kernel_rfl), HRUN.out]
  simp only [Result.andThen]
  rw [Oper.upon_value]
  go_wp2
  go_ret
  exact ⟨rfl, rfl⟩

theorem range_new' (w : World) (l : List UInt8) (t : TypeId) : (w.alloc (.cells (hv l) t)).rangeAt w.heap.size 0 (us (nmb l)) := by
  have := range_new w (hv l) t
  rwa [hv_list] at this
theorem range_keep {w w' : World} {p : Nat} {vs : List Value} (h : w.rangeAt p 0 vs) (hb : w'.heap[p]? = w.heap[p]?) : w'.rangeAt p 0 vs := fun j v hj => by
  rw [World.cell?_of_block (w := w) (a := ⟨p, 0 + j, none⟩) hb]; exact h j v hj

theorem range_drew {w : World} {n p : Nat} {vs : List Value} (h : w.rangeAt p 0 vs) : (w.drewN n).rangeAt p 0 vs := h
theorem compare_to (w : World) (x y : List UInt8) (hx : x.length = 32) (hy : y.length = 32) : Calls Try.prog 30 #[.agg (hv x), .agg (hv y)] w fun e w' =>
    e = .returned (.int .i64 (Lib.compareBytes x y)) ∧ ∃ q, w' = ((w.alloc (.cells (hv x) 26)).alloc (.cells (hv y) 26)).drewN q := by
  have h1 := range_new' w x 26
  have h2 := range_new' (w.alloc (.cells (hv x) 26)) y 26
  have h3 : ((w.alloc (.cells (hv x) 26)).alloc (.cells (hv y) 26)).rangeAt w.heap.size 0 (us (nmb x)) := range_keep h1 (Below.heap_alloc _ _ _ (by simp))
  rw [show (w.alloc (.cells (hv x) 26)).heap.size = w.heap.size + 1 from by simp] at h2
  have H2 := Lib.hid h2
  have H3 := Lib.hid h3
  have HX := Lib.hid hx
  have HY := Lib.hid hy
  clear h1 h2 h3 hx hy
  go_enter Try.func30, Try.ntmps30
  go_wp2_with fail
  go_quiet ((go_at_call 51; exact Calls.quiet_of_same ((bcmp_any (World.drewN _ _) x y _ _ _ _ _ _ HX.out HY.out (range_drew H3.out) (range_drew H2.out)).mono fun _ _ h => ⟨h.1, h.2.symm⟩)))
  go_wp2
  go_ret
  exact ⟨rfl, _, rfl⟩

theorem begins_pre {s p : List UInt8} : (s.take p.length == p) = p.isPrefixOf s := by
  rw [Bool.eq_iff_iff, List.isPrefixOf_iff_prefix, beq_iff_eq, List.prefix_iff_eq_take]
  exact ⟨fun h => h.symm, fun h => h.symm⟩
theorem extract_list (s : List UInt8) (n : Nat) : ((⟨s.toArray⟩ : ByteArray).extract 0 n).toList = s.take n := by
  rw [ByteArray.toList_eq, ByteArray.data_extract]
  simp
theorem pre_long {s p : List UInt8} (h : ¬ p.length ≤ s.length) : p.isPrefixOf s = false := by
  cases hb : p.isPrefixOf s with
  | false => rfl
  | true => rw [List.isPrefixOf_iff_prefix] at hb; exact absurd hb.length_le h
theorem hasprefix0 (w : World) (s p : List UInt8) : Calls Try.prog 52 #[.string ⟨s.toArray⟩, .string ⟨p.toArray⟩] w fun e w' => e = .returned (.bool (p.isPrefixOf s)) ∧ w = w' := by
  have hs : (⟨s.toArray⟩ : ByteArray).size = s.length := rfl
  have hp : (⟨p.toArray⟩ : ByteArray).size = p.length := rfl
  by_cases h : p.length ≤ s.length
  · go_enter Try.func52, Try.ntmps52
    go_wp2
    go_ret
    exact ⟨ret_bool (by rw [extract_list, begins_pre]), rfl⟩
  · rw [pre_long h]
    go_enter Try.func52, Try.ntmps52
    go_wp2
    go_ret
    exact ⟨rfl, rfl⟩
theorem hasprefix_any (w : World) (s p : List UInt8) : Calls Try.prog 35 #[.string ⟨s.toArray⟩, .string ⟨p.toArray⟩] w fun e w' => e = .returned (.bool (p.isPrefixOf s)) ∧ w = w' := by
  have hc := fun w => hasprefix0 w s p
  generalize p.isPrefixOf s = r at *
  have HC := Lib.hid hc
  clear hc
  go_enter Try.func35, Try.ntmps35
  go_wp2_with (go_at_call 52; refine (HC.out _).mono ?_; rintro e w' ⟨rfl, rfl⟩)
  go_ret
  exact ⟨rfl, rfl⟩
attribute [local go_sem ↓] hld_open
theorem begins_to (w : World) (h p : List UInt8) (hl : h.length = 32) : Calls Try.prog 14 #[.agg (hv h), .string ⟨p.toArray⟩] w fun e w' => e = .returned (.bool (p.isPrefixOf (tx h))) ∧ Below w.heap.size w w' := by
  have hld := hld_row hl (heap_alloc_last w (.cells (hv h) 26))
  have BEL := Lib.hid ((Below.refl w.heap.size w).alloc (Nat.le_refl _) (.cells (hv h) 26))
  have HT := Lib.hid (text_to (w.alloc (.cells (hv h) 26)) h hl)
  have HP := Lib.hid (fun w => hasprefix_any w (tx h) p)
  generalize p.isPrefixOf (tx h) = r at *
  clear hl
  go_enter Try.func14, Try.ntmps14
  go_wp2_with (first
    | (go_at_call 12; refine HT.out.mono ?_; rintro e w1 ⟨rfl, b1⟩; have B1 := Lib.hid b1; clear b1)
    | (go_at_call 35; refine (HP.out _).mono ?_; rintro e w' ⟨rfl, rfl⟩))
  go_ret
  exact ⟨rfl, BEL.out.trans (B1.out.mono BEL.out.size)⟩
theorem less_dec (x y : List UInt8) : decide (Lib.compareBytes x y < 0) = Op.bytesLess x y := cmp_less x y
theorem less_to (w : World) (x y : List UInt8) (hx : x.length = 32) (hy : y.length = 32) : Calls Try.prog 11 #[.agg (hv x), .agg (hv y)] w fun e w' =>
    e = .returned (.bool (Op.bytesLess x y)) ∧ Below w.heap.size w w' := by
  have h1 := hld_row hx (show ((w.alloc (.cells (hv x) 26)).alloc (.cells (hv y) 26)).heap[w.heap.size]? = _ from (Below.heap_alloc _ _ _ (by simp)).trans (heap_alloc_last w (.cells (hv x) 26)))
  have h2 := hld_row hy (heap_alloc_last (w.alloc (.cells (hv x) 26)) (.cells (hv y) 26))
  rw [show (w.alloc (.cells (hv x) 26)).heap.size = w.heap.size + 1 from by simp] at h2
  have BEL := Lib.hid (((Below.refl w.heap.size w).alloc (Nat.le_refl _) (.cells (hv x) 26)).alloc (by simp) (.cells (hv y) 26))
  have HC := Lib.hid (compare_to ((w.alloc (.cells (hv x) 26)).alloc (.cells (hv y) 26)) x y hx hy)
  rw [← less_dec]
  generalize Lib.compareBytes x y = r at *
  clear hx hy
  go_enter Try.func11, Try.ntmps11
  go_wp2_with (go_at_call 30; refine HC.out.mono ?_; rintro e w1 ⟨rfl, q, rfl⟩)
  go_ret
  refine ⟨rfl, BEL.out.trans ?_⟩
  have B2 := ((Below.refl _ ((w.alloc (.cells (hv x) 26)).alloc (.cells (hv y) 26))).alloc (Nat.le_refl _) (.cells (hv x) 26)).alloc (by simp) (.cells (hv y) 26)
  exact ⟨B2.os, B2.tape, B2.output, by simp, fun k hk => B2.block k (by simp at hk ⊢; omega)⟩
theorem known_to (w : World) : Calls Try.prog 9 #[] w fun e w' => e = .returned (.bool true) ∧ w = w' := by
  have k1 := Lib.hid (fun w => pre_any w ⟨#[100, 101, 97, 100]⟩)
  have k2 := Lib.hid (fun w => pre_any w ⟨#[68, 101, 97, 100]⟩)
  have k3 := Lib.hid (fun w => pre_any w ⟨#[]⟩)
  rw [show pre (⟨#[100, 101, 97, 100]⟩ : ByteArray).data.toList = true from by decide] at k1
  rw [show pre (⟨#[68, 101, 97, 100]⟩ : ByteArray).data.toList = false from by decide] at k2
  rw [show pre (⟨#[]⟩ : ByteArray).data.toList = false from by decide] at k3
  go_enter Try.func9, Try.ntmps9
  go_wp2_with (first
    | (go_at_call 32; ((with_reducible refine (k1.out _).mono ?_); rintro e w' ⟨rfl, rfl⟩))
    | (go_at_call 32; ((with_reducible refine (k2.out _).mono ?_); rintro e w' ⟨rfl, rfl⟩))
    | (go_at_call 32; ((with_reducible refine (k3.out _).mono ?_); rintro e w' ⟨rfl, rfl⟩))
    | (go_at_call 33; refine (undig_any _ 97 (by omega) (by omega)).mono ?_; rintro e w' ⟨rfl, rfl⟩))
  go_ret
  exact ⟨rfl, rfl⟩
end Go.Proofs.Ytemfblhlkonlpaa
