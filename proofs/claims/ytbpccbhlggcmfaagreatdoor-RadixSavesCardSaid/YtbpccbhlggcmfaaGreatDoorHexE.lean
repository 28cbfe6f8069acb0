/- Text: the 64 digits of a hash. No condition. · Digit, IsPrefix: the program's and the reference's. No condition. · Comparison of hashes, Less, Begins, and the known sentence. No condition. · Two hashes held against each other by '==' and '!='. No condition. -/
import Derived.Test.YtbpccbhlggcmfaaGreatDoorHexH
import Derived.Lib.VarintBits
import Derived.Deep.RegionWith
import Derived.Lib.BytesEntry
import Derived.Deep.QuietTactic
import Derived.BigQuiet
import Derived.ChangeKeysEq
namespace Go.Proofs.YtbpccbhlggcmfaaGreatDoor
open Go.RowKit

/-- The digit of a value below 16, as a number. -/
def dgi (x : Int) : Int := if x < 10 then 48 + x else 87 + x
theorem dgi_dg (n : Nat) (h : n < 16) : dgi (n : Int) = ((dg n).toNat : Int) := by
  rw [dg_nat n h]; unfold dgi
  by_cases hn : n < 10
  · rw [if_pos hn, if_pos (by omega)]
  · rw [if_neg hn, if_neg (by omega)]
theorem ret_u8 {a b : Int} (h : a = b) : Ending.returned (.int .u8 a) = .returned (.int .u8 b) := by rw [h]
theorem digit_any (w : World) (x : Int) (h0 : 0 ≤ x) (h1 : x < 16) : Calls Tryz.prog 71 #[.int .u8 x] w fun e w' => e = .returned (.int .u8 (dgi x)) ∧ w = w' := by
  unfold dgi
  by_cases h : x < 10
  · rw [if_pos h]
    go_enter Tryz.func71, Tryz.ntmps71
    go_wp2
    go_ret
    exact ⟨rfl, rfl⟩
  · rw [if_neg h]
    go_enter Tryz.func71, Tryz.ntmps71
    go_wp2
    go_ret
    exact ⟨ret_u8 (by omega), rfl⟩
theorem u8_and15' {x : Int} (h₀ : 0 ≤ x) (h₁ : x < 256) : bits .and .u8 x 15 = x % 16 := bits_mask .u8 8 (by decide) wraps_u8 4 (by decide) x h₀ h₁
theorem hi_ok' (x : Int) (h0 : 0 ≤ x) (h1 : x < 256) : 0 ≤ x / 16 ∧ x / 16 < 16 ∧ 0 ≤ x % 16 ∧ x % 16 < 16 := by omega
theorem u8_range (b : UInt8) : 0 ≤ (b.toNat : Int) ∧ (b.toNat : Int) < 256 := by have := b.toNat_lt; omega
theorem tx_step {l : List UInt8} {k : Nat} (hk : k < l.length) : us (nmb (tx (l.take (k + 1)))) = us (nmb (tx (l.take k))) ++ [.int .u8 (dgi ((l[k].toNat : Int) / 16)), .int .u8 (dgi ((l[k].toNat : Int) % 16))] := by
  have h := hi16 l[k]
  rw [tx_snoc hk, show ((l[k].toNat : Int) / 16) = ((l[k].toNat / 16 : Nat) : Int) from by omega, show ((l[k].toNat : Int) % 16) = ((l[k].toNat % 16 : Nat) : Int) from by omega, dgi_dg _ h.1, dgi_dg _ h.2]
  simp [us, nmb]

set_option maxRecDepth 20000 in
set_option maxHeartbeats 4000000 in
theorem text_to (w : World) (h : List UInt8) (hl : h.length = 32) : Calls Tryz.prog 37 #[.agg (hv h)] w fun e w' => e = .returned (.string ⟨(tx h).toArray⟩) ∧ Below w.heap.size w w' := by
  obtain ⟨i0, hi0, hz⟩ := Option.map_eq_some_iff.1 u8info
  obtain ⟨hz0, hz1, hz2⟩ : i0.zero = some (.int .u8 0) ∧ i0.size = 1 ∧ i0.bytes = 1 := by simp only [Prod.mk.injEq] at hz; exact hz
  have HR := Lib.hid (range_new (w.alloc (.cells (hv h) 36)) (Array.replicate 64 (.int .u8 0)) 5)
  have bel := (Below.refl w.heap.size w).alloc (Nat.le_refl _) (.cells (hv h) 36)
  have hrow := heap_alloc_last w (.cells (hv h) 36)
  have HROW := Lib.hid hrow
  have BEL := Lib.hid bel
  have HL := Lib.hid hl
  clear hz bel hl HR hrow
  go_enter Tryz.func37, Tryz.ntmps37
  go_wp2_with (first
    | (at_make; refine wpList_make_own _ rfl _ _ 71 rfl (w.heap.size + 1) 5 i0 (.int .u8 0) 1 Tryz.underlying71 hi0 hz0 hz1 .i64 .i64 _ 64 rfl rfl (by rfl) (by rw [hz2]; omega) (by unfold maxLen; omega) (by simp) ?_; intro w0 hown0 hgrow0; have HOWN := Lib.hid hown0; have HGROW := Lib.hid hgrow0; clear hown0 hgrow0)
    | (refine load_to (range_row ((HGROW.out.block _ (by simp) (by simp)).trans HROW.out)) Tryz.underlying36 rfl (hinfo' (hv h) (by rw [hv_size, HL.out])) ?hx ?_; (case hx => rfl)))
  have HB0 : Hid (Below w.heap.size w w0) := Lib.hid (BEL.out.grown HGROW.out (by simp) (by intro k hk; cases hk))
  have hs0 : w.heap.size + 1 ≤ w0.heap.size := by have := HGROW.out.size; simp at this; omega
  go_loopw [3, 8] (fun v i wr => ∃ (k : Nat), k ≤ 32 ∧ i = .int .i64 k ∧ Hid (wr.ownsRow (w.heap.size + 1) 5 1 v (2 * k) (us (nmb (tx (h.take k))))) ∧ Hid (Below (w.heap.size + 1) w0 wr)) (fun _ i _ => 32 - (intOf i).toNat)
  case atStart => exact ⟨0, by omega, rfl, Lib.hid (by have := HOWN.out; simpa [tx, nmb, us] using this), Lib.hid (Below.refl _ _)⟩
  case round =>
    obtain ⟨k, hk, rfl, HO, HB⟩ := hrel
    by_cases hlt : k < 32
    · have hkl : k < h.length := by rw [HL.out]; exact hlt
      have hix := index_hv HL.out k wr hkl
      obtain ⟨x, hx⟩ : ∃ x, x = (h[k].toNat : Int) := ⟨_, rfl⟩
      have HST : Hid (us (nmb (tx (h.take (k + 1)))) = us (nmb (tx (h.take k))) ++ [.int .u8 (dgi (x / 16)), .int .u8 (dgi (x % 16))]) := Lib.hid (by rw [hx]; exact tx_step hkl)
      have hxr := u8_range h[k]
      rw [← hx] at hix hxr
      have HX := Lib.hid hx
      clear hx
      obtain ⟨x0, x1⟩ := hxr
      obtain ⟨y0, y1, y2, y3⟩ := hi_ok' x x0 x1
      have y4 := u8_and15' x0 x1
      have hown := HO.out
      have hbs := HB.out.size
      generalize hxs : us (nmb (tx (h.take k))) = xs at *
      have HXS := Lib.hid hxs
      clear hxs
      have hk32 : (k : Int) < 32 := by omega
      go_wp2_with (first
        | (go_at_call 71; refine (digit_any _ _ (by omega) (by omega)).mono ?_; rintro e w' ⟨rfl, rfl⟩)
        | (at_builtin; refine wpList_append_lies _ (by rfl) (.tmp 11) (.tmp 18) _ (by rfl) (w.heap.size + 1) 5 i0 _ 1 1 Tryz.underlying71 hi0 hz0 hz1 hz2 rfl (by omega) _ (2 * k) xs (by rfl) (hown.alloc _) ⟨wr.heap.size, 0, none⟩ 2 2 [_, _] (by rfl) (by rfl) (World.news_of_block (cs := #[_, _]) (t := 5) (fr := (0, 0)) (heap_alloc_new wr _)) (by simp [Value.oneCell']) (by omega) (by simp [maxLen]; omega) (by simp; omega) (by simp; omega) (wr.heap.size + 1) (by simp) ?_; intro gg cap w1 hown1 hgrow hat hlt1))
      have hgb := (Only.refl (fun k => w.heap.size + 1 ≤ k) wr).alloc (.cells #[.int .u8 (dgi (x / 16)), .int .u8 (dgi (x % 16))] 5) |>.grown hgrow (fun k _ he => (hown.lt k he).1)
      have HBB := Lib.hid (HB.out.trans (hgb.below (Nat.le_trans hs0 hbs) (fun _ h => h)))
      have HO1 : Hid (w1.ownsRow (w.heap.size + 1) 5 1 (.slice (some ⟨gg, 0, none⟩) (2 * k + 2) cap) (2 * (k + 1)) (us (nmb (tx (h.take (k + 1)))))) := Lib.hid (by rw [HST.out]; exact hown1)
      clear hown1 hgrow hat hgb y4
      go_wp2_with fail
      refine ⟨⟨k + 1, by omega, by go_num, HO1, HBB⟩, by simp [intOf]; omega⟩
    · obtain rfl : k = 32 := by omega
      have hk32 : ¬ ((32 : Nat) : Int) < 32 := by omega
      have hcv : (convert 71 9 u3).run Tryz.prog wr = .ok (.string ⟨(tx h).toArray⟩) wr := by
        have ho := HO.out
        have e : h.take 32 = h := List.take_of_length_le (by rw [HL.out]; exact Nat.le_refl _)
        rw [e] at ho
        have hn : (nmb (tx h)).length = 64 := by rw [nm_length, tx_length, HL.out]
        rcases ho.2 with ⟨_, h0⟩ | ⟨g, cap, cur, rfl, _⟩
        · omega
        · rw [← nm_str (tx h)]
          refine run_convert_bytes_arg wr _ _ Tryz.underlying71 Tryz.underlying5 g 0 (2 * 32) cap (nmb (tx h)) hn (fun i hi => ?_) _ Tryz.underlying9
          have := ho.cells (g := g) rfl i (.int .u8 ((nmb (tx h)).getD i 0)) (by simp [us, List.getD, List.getElem?_eq_getElem (show i < (nmb (tx h)).length by omega)])
          rw [Addr.add_lit] at this
          simpa using this
      go_wp2_with fail
      go_ret
      exact ⟨rfl, HB0.out.trans (HB.out.mono (by have := BEL.out.size; omega))⟩
end Go.Proofs.YtbpccbhlggcmfaaGreatDoor
namespace Go.Proofs.YtbpccbhlggcmfaaGreatDoor
open Go.RowKit

/-- The value of a digit, of a number. -/
def udi (x : Int) : Int := if 48 ≤ x ∧ x ≤ 57 then x - 48 else if 97 ≤ x ∧ x ≤ 102 then x - 87 else -1
theorem udi_und (c : UInt8) : udi (c.toNat : Int) = und c := by
  unfold udi und
  by_cases h1 : 48 ≤ c.toNat ∧ c.toNat ≤ 57
  · rw [if_pos h1, if_pos (by omega)]
  · rw [if_neg h1, if_neg (by omega)]
    by_cases h2 : 97 ≤ c.toNat ∧ c.toNat ≤ 102
    · rw [if_pos h2, if_pos (by omega)]
    · rw [if_neg h2, if_neg (by omega)]
theorem ret_i64 {a b : Int} (h : a = b) : Ending.returned (.int .i64 a) = .returned (.int .i64 b) := by rw [h]
theorem ret_bool {a b : Bool} (h : a = b) : Ending.returned (.bool a) = .returned (.bool b) := by rw [h]
theorem udi_num {x : Int} (h : 48 ≤ x ∧ x ≤ 57) : udi x = x - 48 := if_pos h
theorem udi_let {x : Int} (h : 97 ≤ x ∧ x ≤ 102) : udi x = x - 87 := by unfold udi; rw [if_neg (by omega), if_pos h]
theorem udi_no {x : Int} (h : x < 48 ∨ 57 < x ∧ x < 97 ∨ 102 < x) : udi x = -1 := by unfold udi; rw [if_neg (by omega), if_neg (by omega)]

theorem undig_any (w : World) (x : Int) (h0 : 0 ≤ x) (h1 : x < 256) : Calls Tryz.prog 69 #[.int .u8 x] w fun e w' => e = .returned (.int .i64 (udi x)) ∧ w = w' := by
  rcases (show 48 ≤ x ∧ x ≤ 57 ∨ 97 ≤ x ∧ x ≤ 102 ∨ x < 48 ∨ 57 < x ∧ x < 97 ∨ 102 < x from by omega) with h | h | h | ⟨h, h'⟩ | h
  · rw [udi_num h]
    obtain ⟨h, h'⟩ := h
    go_enter Tryz.func69, Tryz.ntmps69
    go_wp2
    go_ret
    exact ⟨rfl, rfl⟩
  · rw [udi_let h]
    obtain ⟨h, h'⟩ := h
    go_enter Tryz.func69, Tryz.ntmps69
    go_wp2
    go_ret
    exact ⟨ret_i64 (by omega), rfl⟩
  all_goals
    rw [udi_no (by omega)]
    go_enter Tryz.func69, Tryz.ntmps69
    go_wp2
    go_ret
    exact ⟨rfl, rfl⟩

theorem digs_nil : digs [] = true := rfl
theorem digs_snoc {s : ByteArray} {k : Nat} (h : k < s.size) : digs (s.data.toList.take (k + 1)) = (digs (s.data.toList.take k) && decide (0 ≤ und s[k])) := by
  have e : s.data.toList.take (k + 1) = s.data.toList.take k ++ [s[k]] := by
    rw [List.take_succ_eq_append_getElem (by simpa using h)]; rfl
  unfold digs
  rw [e, List.all_append]
  simp
theorem digs_cut {l : List UInt8} {k : Nat} (h : digs (l.take k) = false) : digs l = false := by
  unfold digs at h ⊢
  rw [List.all_eq_false] at h ⊢
  obtain ⟨x, hx, hn⟩ := h
  exact ⟨x, List.mem_of_mem_take hx, hn⟩
theorem pre_lo {s : ByteArray} (h : s.size < 1) : pre s.data.toList = false := by
  have : s.data.toList.length = s.size := rfl
  unfold pre; rw [decide_eq_false (by omega)]; rfl
theorem pre_hi {s : ByteArray} (h : 64 < s.size) : pre s.data.toList = false := by
  have : s.data.toList.length = s.size := rfl
  unfold pre; rw [decide_eq_false (p := s.data.toList.length ≤ 64) (by omega)]; simp
theorem pre_no {s : ByteArray} (h : digs s.data.toList = false) : pre s.data.toList = false := by unfold pre; rw [h]; simp
theorem pre_yes {s : ByteArray} (h0 : 1 ≤ s.size) (h1 : s.size ≤ 64) (h : digs s.data.toList = true) : pre s.data.toList = true := by
  have : s.data.toList.length = s.size := rfl
  unfold pre; rw [h, decide_eq_true (by omega), decide_eq_true (by omega)]; rfl

set_option maxHeartbeats 1000000 in
theorem pre_any (w : World) (s : ByteArray) : Calls Tryz.prog 38 #[.string s] w fun e w' => e = .returned (.bool (pre s.data.toList)) ∧ w = w' := by
  by_cases h1 : s.size < 1
  · rw [pre_lo h1]
    go_enter Tryz.func38, Tryz.ntmps38
    go_wp2
    go_ret
    exact ⟨rfl, rfl⟩
  by_cases h2 : 64 < s.size
  · rw [pre_hi h2]
    go_enter Tryz.func38, Tryz.ntmps38
    go_wp2
    go_ret
    exact ⟨rfl, rfl⟩
  generalize hp : pre s.data.toList = p
  have HP := Lib.hid hp
  clear hp
  go_enter Tryz.func38, Tryz.ntmps38
  go_wp2
  go_loop [14] (fun i => ∃ k : Nat, k ≤ s.size ∧ i = .int .i64 k ∧ Hid (digs (s.data.toList.take k) = true)) (fun i => s.size - (intOf i).toNat)
  case atStart => exact ⟨0, Nat.zero_le _, rfl, Lib.hid rfl⟩
  case round =>
    obtain ⟨k, hk, rfl, HD⟩ := hrel
    by_cases hlt : k < s.size
    · have hr := s[k].toNat_lt
      have HS := Lib.hid (digs_snoc hlt)
      have HU := Lib.hid (udi_und s[k])
      by_cases hd : udi (s[k].toNat : Int) < 0
      · go_wp2_with (go_at_call 69; refine (undig_any _ _ (by omega) (by omega)).mono ?_; rintro e w' ⟨rfl, rfl⟩)
        go_ret
        refine ⟨ret_bool ?_, rfl⟩
        rw [← HP.out, pre_no (digs_cut (k := k + 1) (by rw [HS.out, decide_eq_false (by rw [← HU.out]; omega)]; simp))]
      · go_wp2_with (go_at_call 69; refine (undig_any _ _ (by omega) (by omega)).mono ?_; rintro e w' ⟨rfl, rfl⟩)
        go_round
        case rel => exact ⟨k + 1, by omega, by go_num, Lib.hid (by rw [HS.out, HD.out, decide_eq_true (by rw [← HU.out]; omega)]; rfl)⟩
        case measure => simp [intOf]; omega
    · go_wp2
      go_ret
      refine ⟨ret_bool ?_, rfl⟩
      have hd := HD.out
      rw [List.take_of_length_le (by show s.size ≤ k; omega)] at hd
      rw [← HP.out, pre_yes (by omega) (by omega) hd]
end Go.Proofs.YtbpccbhlggcmfaaGreatDoor
namespace Go.Proofs.YtbpccbhlggcmfaaGreatDoor
open Go.RowKit

theorem nm_bytes (l : List UInt8) : (Lib.bytesOf (nmb l)).toArray = l.toArray := by
  have h := nm_str l
  have h2 : strOfNums (nmb l) = ⟨(Lib.bytesOf (nmb l)).toArray⟩ := by
    apply ByteArray.ext
    show (strOfNums (nmb l)).data = (Lib.bytesOf (nmb l)).toArray
    rfl
  rw [h2] at h
  exact congrArg ByteArray.data h
theorem run_bytes_hv {P : Program} (w : World) (l : List UInt8) (p n c : Nat) (hn : l.length = n) (h : w.rangeAt p 0 (us (nmb l))) : (Extern.Bytes.bytesOf (.slice (some ⟨p, 0, none⟩) n c)).run P w = .ok ⟨l.toArray⟩ w := by
  have hl := Lib.run_loadBytesX (P := P) w (nmb l) ⟨p, 0, none⟩ .empty (fun j x hj => by
    rw [Addr.add_lit]
    exact h j (.int .u8 x) (by simp [us, List.getElem?_map, hj]))
  rw [nm_length, hn, nm_bytes] at hl
  show (Extern.Bytes.loadBytes ⟨p, 0, none⟩ n .empty).run P w = _
  rw [hl, show ByteArray.empty.data = #[] from rfl, Array.empty_append]
theorem run_compare_hv {P : Program} (w : World) (x y : List UInt8) (p q n c m d : Nat) (hx : x.length = n) (hy : y.length = m) (hp : w.rangeAt p 0 (us (nmb x))) (hq : w.rangeAt q 0 (us (nmb y))) :
    (Extern.BytealgCompare.compare #[.slice (some ⟨p, 0, none⟩) n c, .slice (some ⟨q, 0, none⟩) m d]).run P w = .ok (.int .i64 (Lib.compareBytes x y)) w := by
  change Sem.run P (do pure (goInt (Extern.BytealgCompare.cmp (← Extern.Bytes.bytesOf (.slice (some ⟨p, 0, none⟩) n c)) (← Extern.Bytes.bytesOf (.slice (some ⟨q, 0, none⟩) m d))))) w = _
  simp only [Sem.run_bind, Sem.run_pure, Result.andThen, run_bytes_hv w x p n c hx hp, run_bytes_hv w y q m d hy hq, Lib.cmp_eq]
  rfl
theorem range_new' (w : World) (l : List UInt8) (t : TypeId) : (w.alloc (.cells (hv l) t)).rangeAt w.heap.size 0 (us (nmb l)) := by
  have := range_new w (hv l) t
  rwa [hv_list] at this
theorem range_keep {w w' : World} {p : Nat} {vs : List Value} (h : w.rangeAt p 0 vs) (hb : w'.heap[p]? = w.heap[p]?) : w'.rangeAt p 0 vs := fun j v hj => by
  rw [World.cell?_of_block (w := w) (a := ⟨p, 0 + j, none⟩) hb]; exact h j v hj

theorem range_drew {w : World} {n p : Nat} {vs : List Value} (h : w.rangeAt p 0 vs) : (w.drewN n).rangeAt p 0 vs := h
theorem begins_pre {s p : List UInt8} : (s.take p.length == p) = p.isPrefixOf s := by
  rw [Bool.eq_iff_iff, List.isPrefixOf_iff_prefix, beq_iff_eq, List.prefix_iff_eq_take]
  exact ⟨fun h => h.symm, fun h => h.symm⟩
theorem extract_list (s : List UInt8) (n : Nat) : ((⟨s.toArray⟩ : ByteArray).extract 0 n).toList = s.take n := by
  rw [ByteArray.toList_eq, ByteArray.data_extract]
  simp
theorem pre_long {s p : List UInt8} (h : ¬ p.length ≤ s.length) : p.isPrefixOf s = false := by
  cases hb : p.isPrefixOf s with
  | false => rfl
  | true => rw [List.isPrefixOf_iff_prefix] at hb; exact absurd hb.length_le h
theorem hasprefix0 (w : World) (s p : List UInt8) : Calls Tryz.prog 108 #[.string ⟨s.toArray⟩, .string ⟨p.toArray⟩] w fun e w' => e = .returned (.bool (p.isPrefixOf s)) ∧ w = w' := by
  have hs : (⟨s.toArray⟩ : ByteArray).size = s.length := rfl
  have hp : (⟨p.toArray⟩ : ByteArray).size = p.length := rfl
  by_cases h : p.length ≤ s.length
  · go_enter Tryz.func108, Tryz.ntmps108
    go_wp2
    go_ret
    exact ⟨ret_bool (by rw [extract_list, begins_pre]), rfl⟩
  · rw [pre_long h]
    go_enter Tryz.func108, Tryz.ntmps108
    go_wp2
    go_ret
    exact ⟨rfl, rfl⟩
theorem hasprefix_any (w : World) (s p : List UInt8) : Calls Tryz.prog 92 #[.string ⟨s.toArray⟩, .string ⟨p.toArray⟩] w fun e w' => e = .returned (.bool (p.isPrefixOf s)) ∧ w = w' := by
  have hc := fun w => hasprefix0 w s p
  generalize p.isPrefixOf s = r at *
  have HC := Lib.hid hc
  clear hc
  go_enter Tryz.func92, Tryz.ntmps92
  go_wp2_with (go_at_call 108; refine (HC.out _).mono ?_; rintro e w' ⟨rfl, rfl⟩)
  go_ret
  exact ⟨rfl, rfl⟩
attribute [local go_sem ↓] hld_open
theorem begins_to (w : World) (h p : List UInt8) (hl : h.length = 32) : Calls Tryz.prog 70 #[.agg (hv h), .string ⟨p.toArray⟩] w fun e w' => e = .returned (.bool (p.isPrefixOf (tx h))) ∧ Below w.heap.size w w' := by
  have hld := hld_row hl (heap_alloc_last w (.cells (hv h) 36))
  have BEL := Lib.hid ((Below.refl w.heap.size w).alloc (Nat.le_refl _) (.cells (hv h) 36))
  have HT := Lib.hid (text_to (w.alloc (.cells (hv h) 36)) h hl)
  have HP := Lib.hid (fun w => hasprefix_any w (tx h) p)
  generalize p.isPrefixOf (tx h) = r at *
  clear hl
  go_enter Tryz.func70, Tryz.ntmps70
  go_wp2_with (first
    | (go_at_call 37; refine HT.out.mono ?_; rintro e w1 ⟨rfl, b1⟩; have B1 := Lib.hid b1; clear b1)
    | (go_at_call 92; refine (HP.out _).mono ?_; rintro e w' ⟨rfl, rfl⟩))
  go_ret
  exact ⟨rfl, BEL.out.trans (B1.out.mono BEL.out.size)⟩
theorem less_dec (x y : List UInt8) : decide (Lib.compareBytes x y < 0) = Op.bytesLess x y := cmp_less x y
end Go.Proofs.YtbpccbhlggcmfaaGreatDoor
namespace Go.Proofs.YtbpccbhlggcmfaaGreatDoor
open Go.RowKit

/-- Two hashes are compared: one step. -/
noncomputable def heqS (a b : Array Value) : Sem Value := binOp .eql 36 (.agg a) (.agg b)
theorem heq_open (a b : Array Value) : binOp .eql 36 (.agg a) (.agg b) = heqS a b := rfl
noncomputable def hneS (a b : Array Value) : Sem Value := binOp .neq 36 (.agg a) (.agg b)
theorem hne_open (a b : Array Value) : binOp .neq 36 (.agg a) (.agg b) = hneS a b := rfl
theorem heq_guard (x y : Operand) (a b : Array Value) (w : World) : (eqGuard .eql 36 x y (.agg a) (.agg b)).run Tryz.prog w = .ok () w := run_eqGuard_agg _ _ _ _ _ _ _ (by kernel_rfl)
theorem hne_guard (x y : Operand) (a b : Array Value) (w : World) : (eqGuard .neq 36 x y (.agg a) (.agg b)).run Tryz.prog w = .ok () w := run_eqGuard_agg _ _ _ _ _ _ _ (by kernel_rfl)

theorem u8_beq (x y : UInt8) : (((x.toNat : Int)) == ((y.toNat : Int))) = (x == y) := by
  rw [Bool.eq_iff_iff, beq_iff_eq, beq_iff_eq]
  constructor
  · intro h; exact UInt8.toNat_inj.1 (by omega)
  · intro h; rw [h]
theorem items_hv (a b : List UInt8) (ha : a.length = 32) (hb : b.length = 32) (w : World) : ∀ is : List Nat, (∀ j ∈ is, j < 32) →
    (Op.eqItems 9999 5 1 (hv a) (hv b) is).run Tryz.prog w = .ok (is.all fun j => a.getD j 0 == b.getD j 0) w := by
  intro is
  induction is with
  | nil => intro _; simp [Op.eqItems]
  | cons j is ih =>
    intro h
    have hj : j < 32 := h j (List.mem_cons_self ..)
    have hja : j < a.length := by omega
    have hjb : j < b.length := by omega
    have p1 : (part 5 (hv a) (j * 1)).run Tryz.prog w = .ok (.int .u8 (a[j].toNat : Int)) w := run_part_plain w (by kernel_rfl) (by rw [Nat.mul_one]; exact hv_get hja)
    have p2 : (part 5 (hv b) (j * 1)).run Tryz.prog w = .ok (.int .u8 (b[j].toNat : Int)) w := run_part_plain w (by kernel_rfl) (by rw [Nat.mul_one]; exact hv_get hjb)
    have he := run_equalIn_int (P := Tryz.prog) w 9998 5 .u8 .u8 (a[j].toNat : Int) (b[j].toNat : Int) Tryz.underlying5
    simp only [Op.eqItems, Sem.run_bind, p1, p2, Result.andThen_ok, he, u8_beq]
    rw [List.all_cons, show a.getD j 0 = a[j] from by simp [List.getD, hja], show b.getD j 0 = b[j] from by simp [List.getD, hjb]]
    cases hc : a[j] == b[j] with
    | false => simp
    | true => simpa using ih fun k hk => h k (List.mem_cons_of_mem _ hk)
theorem all_eq (a b : List UInt8) (ha : a.length = 32) (hb : b.length = 32) : ((List.range 32).all fun j => a.getD j 0 == b.getD j 0) = decide (a = b) := by
  rw [Bool.eq_iff_iff, decide_eq_true_eq, List.all_eq_true]
  constructor
  · intro h
    refine List.ext_getElem (by omega) fun j h1 h2 => ?_
    have := h j (List.mem_range.2 (by omega))
    rw [beq_iff_eq, show a.getD j 0 = a[j] from by simp [List.getD, h1], show b.getD j 0 = b[j] from by simp [List.getD, h2]] at this
    exact this
  · rintro rfl j _; simp
theorem equal_hv (a b : List UInt8) (ha : a.length = 32) (hb : b.length = 32) (w : World) : (Op.equalIn 10000 36 (.agg (hv a)) (.agg (hv b))).run Tryz.prog w = .ok (decide (a = b)) w := by
  obtain ⟨i, hi⟩ : ∃ i, Tryz.prog.info? 5 = some i := by
    cases h : Tryz.prog.info? 5 with
    | none => have := u8info; rw [h] at this; cases this
    | some i => exact ⟨i, rfl⟩
  have hc : Tryz.prog.cellsOf 5 = 1 := by kernel_rfl
  rw [run_equalIn_array w 9999 (hv a) (hv b) Tryz.underlying36 hi, hc, items_hv a b ha hb w _ (fun j hj => List.mem_range.1 hj), all_eq a b ha hb]
theorem heq_hv {a b : List UInt8} (ha : a.length = 32) (hb : b.length = 32) (w : World) : (heqS (hv a) (hv b)).run Tryz.prog w = .ok (.bool (decide (a = b))) w := by
  show (binOp .eql 36 (.agg (hv a)) (.agg (hv b))).run Tryz.prog w = _
  rw [run_eql_struct, equal_hv a b ha hb]
  rfl
theorem hne_hv {a b : List UInt8} (ha : a.length = 32) (hb : b.length = 32) (w : World) : (hneS (hv a) (hv b)).run Tryz.prog w = .ok (.bool (!decide (a = b))) w := by
  show (binOp .neq 36 (.agg (hv a)) (.agg (hv b))).run Tryz.prog w = _
  rw [run_neq_struct, equal_hv a b ha hb]
  rfl
end Go.Proofs.YtbpccbhlggcmfaaGreatDoor
