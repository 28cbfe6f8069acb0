/- HexKnown returns true and makes new memory alone. Condition: errors.errorType holds what its text lays. -/
import Derived.Test.YtgnagpohogiodaaDoorHexDg
import Derived.Test.YtgnagpohogiodaaDoorHexSo
import Derived.Test.YtgnagpohogiodaaDoorHexBs
namespace Go.Proofs.YtgnagpohogiodaaDoor
open Go.RowKit
attribute [local go_sem ↓] hld_open heq_open

/-- The hashes of the sentence. -/
def ka : List UInt8 := [171, 1, 0, 0, 0, 0, 0, 0, 0, 0, 0, 0, 0, 0, 0, 0, 0, 0, 0, 0, 0, 0, 0, 0, 0, 0, 0, 0, 0, 0, 0, 0]
def k1 : List UInt8 := [1, 0, 0, 0, 0, 0, 0, 0, 0, 0, 0, 0, 0, 0, 0, 0, 0, 0, 0, 0, 0, 0, 0, 0, 0, 0, 0, 0, 0, 0, 0, 0]
def k2 : List UInt8 := [2, 0, 0, 0, 0, 0, 0, 0, 0, 0, 0, 0, 0, 0, 0, 0, 0, 0, 0, 0, 0, 0, 0, 0, 0, 0, 0, 0, 0, 0, 0, 0]
theorem ka_built : Tryd.prog.built 23 [(0, .int .u8 171), (1, .int .u8 1)] = some (hv ka) := by kernel_rfl
theorem k1_built : Tryd.prog.built 23 [(0, .int .u8 1)] = some (hv k1) := by kernel_rfl
theorem k2_built : Tryd.prog.built 23 [(0, .int .u8 2)] = some (hv k2) := by kernel_rfl
theorem k_sort : rsort [k2, k1, k2] = [k1, k2] := by decide
theorem k_tx4 : (tx ka).take 4 = [97, 98, 48, 49] := by decide
theorem k_pre1 : List.isPrefixOf [97, 98, 48] (tx ka) = true := by decide
theorem k_pre2 : List.isPrefixOf [97, 98, 49] (tx ka) = false := by decide
theorem k_pre3 : List.isPrefixOf [] (tx ka) = true := by decide
theorem k_less : Op.bytesLess k1 ka = true := by decide
theorem k_less2 : Op.bytesLess ka ka = false := less_irrefl ka
theorem k_bad : prs [97, 98] = (hz, 2) := by decide

theorem k_good : prs (tx ka) = (ka, 0) := by
  unfold prs
  rw [if_pos ⟨by rw [tx_length]; rfl, tx_pre ka rfl⟩, unh_tx]
theorem cell_kb3 {w w' : World} {a : Addr} {u : Value} (h : w.cell? a = some u) (hb : Below w.heap.size w w') : w'.cell? a = some u := by
  rw [World.cell?_of_block (w := w) (hb.block _ (World.block_lt_of_cell? w _ h))]; exact h
theorem range_kb3 {w w' : World} {b o : Nat} {cs : List Value} (h : w.rangeAt b o cs) (hb : Below w.heap.size w w') : w'.rangeAt b o cs := fun j v hv => cell_kb3 (h j v hv) hb
theorem below_al (w : World) (o : Obj) : Below w.heap.size w (w.alloc o) := (Below.refl _ _).alloc (Nat.le_refl _) _
/-- What is used of the sentence's three hashes. -/
structure Kh (a c d : List UInt8) : Prop where
  la : a.length = 32
  lc : c.length = 32
  ld : d.length = 32
  ba : Tryd.prog.built 23 [(0, .int .u8 171), (1, .int .u8 1)] = some (hv a)
  bc : Tryd.prog.built 23 [(0, .int .u8 1)] = some (hv c)
  bd : Tryd.prog.built 23 [(0, .int .u8 2)] = some (hv d)
  sort : rsort [d, c, d] = [c, d]
  tx4 : (tx a).take 4 = [97, 98, 48, 49]
  pre1 : List.isPrefixOf [97, 98, 48] (tx a) = true
  pre2 : List.isPrefixOf [97, 98, 49] (tx a) = false
  pre3 : List.isPrefixOf [] (tx a) = true
  less : Op.bytesLess c a = true
  less2 : Op.bytesLess a a = false
  good : prs (tx a) = (a, 0)
  lit : hv c = #[.int .u8 1, .int .u8 0, .int .u8 0, .int .u8 0, .int .u8 0, .int .u8 0, .int .u8 0, .int .u8 0, .int .u8 0, .int .u8 0, .int .u8 0, .int .u8 0, .int .u8 0, .int .u8 0, .int .u8 0, .int .u8 0, .int .u8 0, .int .u8 0, .int .u8 0, .int .u8 0, .int .u8 0, .int .u8 0, .int .u8 0, .int .u8 0, .int .u8 0, .int .u8 0, .int .u8 0, .int .u8 0, .int .u8 0, .int .u8 0, .int .u8 0, .int .u8 0]
theorem kh : Kh ka k1 k2 := ⟨rfl, rfl, rfl, ka_built, k1_built, k2_built, k_sort, k_tx4, k_pre1, k_pre2, k_pre3, k_less, k_less2, k_good, rfl⟩
theorem tx4_slice {a : List UInt8} (la : a.length = 32) (h : (tx a).take 4 = [97, 98, 48, 49]) (w : World) : (Instr.slice 9 (.string ⟨(tx a).toArray⟩) none (some (.int .i64 4)) none).run Tryd.prog w = .ok (.string ⟨#[97, 98, 48, 49]⟩) w := by
  rw [slice_to (tx a) 4 (by decide) (by rw [tx_length, la]; decide)]
  rw [show ((4 : Int).toNat) = 4 from rfl, h]
/-- The known sentence's words: two hashes in memory. -/
structure Kx (a : List UInt8) (w : World) (p q : Nat) (W : World) : Prop where
  bel : Below w.heap.size w W
  one : W.rangeAt p 0 (us (nmb a))
  two : W.rangeAt q 0 (us (nmb a))
theorem Kx.kb {a : List UInt8} {w : World} {p q : Nat} {W W' : World} (h : Kx a w p q W) (hb : Below W.heap.size W W') : Kx a w p q W' := ⟨h.bel.trans (hb.mono h.bel.size), range_kb3 h.one hb, range_kb3 h.two hb⟩
theorem Kx.l1 {a : List UInt8} (la : a.length = 32) {w : World} {p q : Nat} {W : World} (h : Kx a w p q W) : (hld ⟨p, 0, none⟩).run Tryd.prog W = .ok (.agg (hv a)) W := hld_range la h.one
theorem Kx.l2 {a : List UInt8} (la : a.length = 32) {w : World} {p q : Nat} {W : World} (h : Kx a w p q W) : (hld ⟨q, 0, none⟩).run Tryd.prog W = .ok (.agg (hv a)) W := hld_range la h.two
set_option maxRecDepth 20000 in
set_option maxHeartbeats 8000000 in
theorem hexKnown_gen (a c d z : List UInt8) (hz32 : z.length = 32) (hbad : prs [97, 98] = (z, 2)) (hk : Kh a c d) (w : World) (hg : Glob w) : Calls Tryd.prog 7 #[] w fun e w' => e = .returned (.bool true) ∧ Below w.heap.size w w' := by
  have HG := Lib.hid hg
  have HK := Lib.hid hk
  have HBAD := Lib.hid hbad
  have HZ := Lib.hid hz32
  have hst := fun w => hst_cells a HK.out.la w
  have hstz := fun w => hst_cells z HZ.out w
  have hsz : (hv a).size = 32 := by rw [hv_size, HK.out.la]
  have hszz : (hv z).size = 32 := by rw [hv_size, HZ.out]
  have hl0 := hld_row (q := a) HK.out.la (heap_alloc_last w (.cells (hv a) 23))
  have R0 := Lib.hid (range_new' w a 23)
  have B0 := Lib.hid (below_al w (.cells (hv a) 23))
  clear hg hk hbad hz32
  go_enter Tryd.func7, Tryd.ntmps7
  go_wp2_with (refine build_to (vals := #[(0, .int .u8 171), (1, .int .u8 1)]) HK.out.ba ?hv ?_; (case hv => simp [Act.eval]))
  generalize w.alloc (.cells (hv a) 23) = w0 at *
  refine (text_to w0 a HK.out.la).mono ?_
  rintro e w1 ⟨rfl, b1⟩
  have B1 := Lib.hid (B0.out.trans (b1.mono B0.out.size))
  have R1 := Lib.hid (range_kb3 R0.out b1)
  have hp := parse_to w1 (tx a)
  rw [HK.out.good] at hp
  have HP := Lib.hid hp
  clear b1 R0 B0 hp hl0
  go_wp2_with fail
  refine HP.out.mono ?_
  rintro e w2 ⟨rfl, b2⟩
  have b2' := b2.trans ((below_al w2 (.cells (hv a) 23)).mono b2.size)
  have K2 : Hid (Kx a w w.heap.size w2.heap.size (w2.alloc (.cells (hv a) 23))) := Lib.hid ⟨B1.out.trans (b2'.mono B1.out.size), range_kb3 R1.out b2', range_new' w2 a 23⟩
  have hs2 := hst w2
  rw [show errOf 0 = Value.nilIface from rfl]
  clear b2 b2' R1 B1 HP hst
  go_wp2_with fail
  generalize w2.alloc (.cells (hv a) 23) = w3 at *
  have hp := parse_to w3 [97, 98]
  rw [HBAD.out] at hp
  dsimp only at hp
  refine hp.mono ?_
  rintro e w4 ⟨rfl, b4⟩
  have b4' := b4.trans ((below_al w4 (.cells (hv z) 23)).mono b4.size)
  have K4 := Lib.hid (K2.out.kb b4')
  have hs4 := hstz w4
  clear b4 b4' hp K2 hstz hs2
  have H3 : Hid (H32 [d, c, d]) := Lib.hid (fun x hx => by rcases List.mem_cons.1 hx with rfl | hx; exact HK.out.ld; rcases List.mem_cons.1 hx with rfl | hx; exact HK.out.lc; rw [List.mem_singleton.1 hx]; exact HK.out.ld)
  go_wp2_with (first
    | (refine build_to (vals := #[(0, .int .u8 2)]) HK.out.bd ?hv ?_; (case hv => simp [Act.eval]))
    | (refine build_to (vals := #[(0, .int .u8 1)]) HK.out.bc ?hv ?_; (case hv => simp [Act.eval]))
    | (refine build_hash (E := [d, c, d]) H3.out rfl (by simp) (by simp) ?hv ?_; (case hv => simp [Act.put, Act.eval])))
  have hsn : HSeen ((w4.alloc (.cells (hv z) 23)).alloc (.cells (fl [d, c, d]).toArray 23)) (.slice (some ⟨w4.heap.size + 1, 0, none⟩) 3 3) [d, c, d] := by
    refine .inr ⟨⟨w4.heap.size + 1, 0, none⟩, 3, rfl, by simp, fun j u hj => ?_⟩
    have hla := heap_alloc_last (w4.alloc (.cells (hv z) 23)) (.cells (fl [d, c, d]).toArray 23)
    rw [show (w4.alloc (.cells (hv z) 23)).heap.size = w4.heap.size + 1 from by simp] at hla
    rw [Addr.add_lit, Nat.zero_add, cell_of_row _ _ j _ _ _ hla, List.getElem?_toArray]
    exact hj
  have K5 := Lib.hid (K4.out.kb (below_al (w4.alloc (.cells (hv z) 23)) (.cells (fl [d, c, d]).toArray 23)))
  have hso := sort_to _ _ [d, c, d] H3.out (by simp) hsn
  have HSO := Lib.hid hso
  clear hsn hso K4 hs4
  generalize (w4.alloc (.cells (hv z) 23)).alloc (.cells (fl [d, c, d]).toArray 23) = w5 at *
  refine HSO.out.mono ?_
  rintro e w6 ⟨v6, rfl, o6, b6⟩
  rw [HK.out.sort] at o6
  obtain ⟨g, cap, R, rfl, _, hg6, hc6, _, _⟩ := o6.row (by simp)
  have K6 := Lib.hid (K5.out.kb b6)
  have hc2 : 2 ≤ cap := hc6
  have hcd : H32 [c, d] := fun x hx => by rcases List.mem_cons.1 hx with rfl | hx; exact HK.out.lc; rw [List.mem_singleton.1 hx]; exact HK.out.ld
  have rw6 : w6.rangeAt g 0 (us (nmb c)) := by
    have := row_range (i := 0) hcd (by simp) hg6
    simpa using this
  have W6 := Lib.hid rw6
  have htx := tx4_slice HK.out.la HK.out.tx4
  have ht64 : (⟨(tx a).toArray⟩ : ByteArray).size = 64 := by show (tx a).length = 64; rw [tx_length, HK.out.la]
  have l1 := K6.out.l1 HK.out.la
  have l2 := K6.out.l2 HK.out.la
  have heq := heq_hv HK.out.la HK.out.la
  have heqc := heq_hv HK.out.lc HK.out.lc
  rw [decide_eq_true rfl] at heq heqc
  have heqc2 : ∀ w, (heqS (hv c) #[.int .u8 1, .int .u8 0, .int .u8 0, .int .u8 0, .int .u8 0, .int .u8 0, .int .u8 0, .int .u8 0, .int .u8 0, .int .u8 0, .int .u8 0, .int .u8 0, .int .u8 0, .int .u8 0, .int .u8 0, .int .u8 0, .int .u8 0, .int .u8 0, .int .u8 0, .int .u8 0, .int .u8 0, .int .u8 0, .int .u8 0, .int .u8 0, .int .u8 0, .int .u8 0, .int .u8 0, .int .u8 0, .int .u8 0, .int .u8 0, .int .u8 0, .int .u8 0]).run Tryd.prog w = .ok (.bool true) w := by rw [← HK.out.lit]; exact heqc
  clear heqc
  have hgd2 := heq_guard
  clear o6 b6 hg6 hc6 hcd rw6 HSO K5
  rw [show [c, d].length = 2 from rfl]
  go_wp2_with fail
  refine (known_to _).mono ?_
  rintro e w' ⟨rfl, rfl⟩
  go_wp2_with fail
  have hcon := khand_any w6 2 (HG.out.kb K6.out.bel)
  refine hcon.mono ?_
  rintro e w7 ⟨rfl, b⟩
  have K7 := Lib.hid (K6.out.kb b)
  have W7 := Lib.hid (range_kb3 W6.out b)
  have l7 := K7.out.l1 HK.out.la
  clear b hcon
  go_wp2_with fail
  have hcon := begins_to w7 a [97, 98, 48] HK.out.la
  rw [HK.out.pre1] at hcon
  refine hcon.mono ?_
  rintro e w8 ⟨rfl, b⟩
  have K8 := Lib.hid (K7.out.kb b)
  have W8 := Lib.hid (range_kb3 W7.out b)
  have l8 := K8.out.l1 HK.out.la
  clear b hcon
  go_wp2_with fail
  have hcon := begins_to w8 a [97, 98, 49] HK.out.la
  rw [HK.out.pre2] at hcon
  refine hcon.mono ?_
  rintro e w9 ⟨rfl, b⟩
  have K9 := Lib.hid (K8.out.kb b)
  have W9 := Lib.hid (range_kb3 W8.out b)
  have l9 := K9.out.l1 HK.out.la
  clear b hcon
  go_wp2_with fail
  have hcon := begins_to w9 a [] HK.out.la
  rw [HK.out.pre3] at hcon
  refine hcon.mono ?_
  rintro e w10 ⟨rfl, b⟩
  have K10 := Lib.hid (K9.out.kb b)
  have W10 := Lib.hid (range_kb3 W9.out b)
  have l10 := K10.out.l1 HK.out.la
  clear b hcon
  go_wp2_with fail
  have hcon := less_to w10 c a HK.out.lc HK.out.la
  rw [HK.out.less, HK.out.lit] at hcon
  refine hcon.mono ?_
  rintro e w11 ⟨rfl, b⟩
  have K11 := Lib.hid (K10.out.kb b)
  have W11 := Lib.hid (range_kb3 W10.out b)
  have l11 := K11.out.l1 HK.out.la
  clear b hcon
  go_wp2_with fail
  have hcon := less_to w11 a a HK.out.la HK.out.la
  rw [HK.out.less2] at hcon
  refine hcon.mono ?_
  rintro e w12 ⟨rfl, b⟩
  have K12 := Lib.hid (K11.out.kb b)
  have W12 := Lib.hid (range_kb3 W11.out b)
  have lr := hld_range HK.out.lc W12.out
  clear b hcon
  go_wp2_with fail
  refine (undig_any _ 71 (by decide) (by decide)).mono ?_
  rintro e w' ⟨rfl, rfl⟩
  rw [show udi 71 = -1 from rfl]
  go_wp2_with fail
  go_ret
  exact ⟨rfl, K12.out.bel⟩
theorem hexKnown_walk (w : World) (hg : Glob w) : Calls Tryd.prog 7 #[] w fun e w' => e = .returned (.bool true) ∧ Below w.heap.size w w' :=
  hexKnown_gen ka k1 k2 hz rfl k_bad kh w hg
end Go.Proofs.YtgnagpohogiodaaDoor
