/- DiskOrder returns true and makes new memory alone. No condition. -/
import Derived.Test.YtemfblhlkonlpaaDskO
namespace Go.Proofs.Ytemfblhlkonlpaa
open Go.RowKit
open Go.Maps

theorem intinfo : (Try.prog.info? 3).map (fun i => (i.zero, i.size, i.bytes)) = some (some (.int .i64 0), 1, 8) := by kernel_rfl
def is64 (l : List Nat) : List Value := l.map (fun (n : Nat) => Value.int .i64 ((n : Nat) : Int))
/-- Where the pieces end. -/
def offs (xs : List (List Int)) : List Nat := (List.range xs.length).map fun j => (xs.take (j + 1)).flatten.length
theorem offs_length (xs : List (List Int)) : (offs xs).length = xs.length := by simp [offs]
theorem offs_snoc (xs : List (List Int)) (x : List Int) : offs (xs ++ [x]) = offs xs ++ [(xs ++ [x]).flatten.length] := by
  unfold offs
  rw [List.length_append, List.length_singleton, List.range_succ, List.map_append]
  congr 1
  · refine List.map_congr_left fun j hj => ?_
    have hj' := List.mem_range.1 hj
    rw [List.take_append_of_le_length (by omega)]
  · simp [List.take_of_length_le]
theorem offs_at (xs : List (List Int)) {j : Nat} (hj : j < xs.length) : (is64 (offs xs))[j]? = some (.int .i64 ((xs.take (j + 1)).flatten.length : Nat)) := by
  simp [is64, offs, hj]
/-- The caller's list of numbers beside the disk. -/
structure IBes (W : World) (S : Nat → Prop) (B : Nat) (v : Value) (l : List Nat) : Prop where
  own : W.ownsRow B 3 1 v l.length (is64 l)
  out : ∀ k, v.ownBlock = some k → ¬ S k
theorem IBes.step {W W' : World} {S S' : Nat → Prop} {B : Nat} {v : Value} {l : List Nat} (h : IBes W S B v l) (ho : Only S W W') (hs : ∀ k, S' k → S k ∨ W.heap.size ≤ k) : IBes W' S' B v l :=
  ⟨own_kept h.own ho h.out, fun k hk hs' => (hs k hs').elim (h.out k hk) (fun e => by have := (h.own.lt k hk).2; omega)⟩
theorem IBes.kb {W W' : World} {S : Nat → Prop} {B : Nat} {v : Value} {l : List Nat} (h : IBes W S B v l) (hb : Below W.heap.size W W') : IBes W' S B v l := ⟨own_kept h.own (S := fun _ => False) (Only.of_below hb) (fun _ _ h => h), h.out⟩
structure OrdL (w wr : World) (d : Nat) (S : Nat → Prop) (xs : List (List Int)) (k : Nat) (ends : Value) : Prop where
  cl : Cl w wr w.heap.size d S (sO xs)
  le : xs.length ≤ k
  small : xs.flatten.length ≤ 100 * xs.length
  row : IBes wr S w.heap.size ends (offs xs)
theorem neq_str_self (x : ByteArray) (W : World) : (binOp .neq 9 (.string x) (.string x)).run Try.prog W = .ok (.bool false) W := by
  show (Op.stringOp .neq x x).run Try.prog W = _
  unfold Op.stringOp
  simp
theorem slice_strs (a : List Int) (n : Nat) (h : n ≤ a.length) (W : World) : (Instr.slice 9 (.string (strOfNums a)) none (some (.int .i64 n)) none).run Try.prog W = .ok (.string (strOfNums (a.take n))) W := by
  have hs : (strOfNums a).size = a.length := strOfNums_size a
  have h0 : (0 : Int) ≤ (n : Int) := by omega
  have h1 : (n : Int) ≤ (a.length : Int) := by omega
  have e := strs_extract a n
  simp [Instr.slice, run_underlying Try.underlying9, go_sem, h0, h1, hs, e]
theorem ord_fits {n k : Nat} (h : n ≤ k) (hk : k < 20) : n + 1 ≤ maxLen ∧ (n + 1) * 8 ≤ 140737488355328 := by unfold maxLen; omega
set_option maxRecDepth 20000 in
set_option maxHeartbeats 4000000 in
theorem diskOrder_walk (w : World) (p0 : Option Addr) (c0 : Nat) (E : List (List Int)) (hE : LSeen w p0 E) (done cut : Int) :
    Calls Try.prog 4 #[.slice p0 E.length c0, .int .i64 done, .int .i64 cut] w fun e w' => e = .returned (.bool true) ∧ Below w.heap.size w w' := by
  obtain ⟨i0, hi0, hz0, hz1, hz2⟩ := info_parts intinfo
  obtain ⟨n, hn⟩ : ∃ n, n = E.length := ⟨_, rfl⟩
  rw [← hn]
  have HN := Lib.hid hn
  have HE := Lib.hid hE
  clear hn hE
  go_enter Try.func4, Try.ntmps4
  go_wp2_with fail
  refine (new_to w 10000).mono ?_
  rintro e w1 ⟨d, S1, rfl, h1, b1, g1⟩
  have C1 : Hid (Cl w w1 w.heap.size d S1 (sO [])) := Lib.hid ⟨by rw [← sO_nil]; exact h1, b1, g1⟩
  clear h1 b1 g1
  go_wp2_with fail
  refine (known_to w1).mono ?_
  rintro e w2 ⟨rfl, b2⟩
  have C2 := Lib.hid (C1.out.kb b2)
  clear b2 C1
  go_wp2_with fail
  go_loopw [8, 9, 10] (fun all ends i wr => ∃ (k : Nat) (xs : List (List Int)) (S : Nat → Prop), k ≤ n ∧ k ≤ 20 ∧ i = .int .i64 k ∧ all = .string (strOfNums xs.flatten) ∧ Hid (OrdL w wr d S xs k ends)) (fun _ _ i _ => n - (intOf i).toNat)
  case atStart => exact ⟨0, [], S1, Nat.zero_le _, by omega, rfl, rfl, Lib.hid ⟨C2.out, Nat.le_refl _, by simp, ⟨World.ownsRow_nil w2 w.heap.size 3 1, fun k hk => by simp [Value.ownBlock] at hk⟩⟩⟩
  case round =>
    obtain ⟨k, xs, S, hk, hk20, rfl, rfl, HR⟩ := hrel
    clear C2
    obtain ⟨fl, hfl⟩ : ∃ fl, fl = xs.flatten := ⟨_, rfl⟩
    rw [← hfl]
    have HFL := Lib.hid hfl
    clear hfl
    by_cases hlt : k < n ∧ k < 20
    · obtain ⟨hl1, hl2⟩ := hlt
      obtain ⟨x, hx⟩ : ∃ x, E[k]? = some x := ⟨E[k]'(by rw [← HN.out]; exact hl1), List.getElem?_eq_getElem _⟩
      obtain ⟨a, q, cq, rfl, hcx, hsx⟩ := HE.out k x hx
      have hc : wr.cell? (a.add k) = some (.slice q x.length cq) := by
        rw [World.cell?_of_block (w := w) (HR.out.cl.bel.block _ (World.block_lt_of_cell? w _ hcx))]; exact hcx
      have HF := Lib.hid (few_nb wr (.slice q x.length cq) x 100 (by decide) (hsx.kb HR.out.cl.bel))
      have hk' : (k : Int) < n := by omega
      have hk'' : (k : Int) < 20 := by omega
      have HFT := Lib.hid (ord_fits HR.out.le hl2)
      have HXL : Hid (xs.length < 20) := Lib.hid (Nat.lt_of_le_of_lt HR.out.le hl2)
      clear hx hcx hsx
      go_wp2_with fail
      refine HF.out.mono ?_
      rintro e w3 ⟨ga, ca, rfl, o3, b3⟩
      obtain ⟨y, hy⟩ : ∃ y, y = x.take 100 := ⟨_, rfl⟩
      have HYL : Hid (y.length ≤ 100) := Lib.hid (by rw [hy, List.length_take]; omega)
      rw [← hy] at o3 ⊢
      have C3 := Lib.hid (HR.out.cl.kb b3)
      have I3 := Lib.hid (HR.out.row.kb b3)
      have BY3 : Hid (Beside w3 S wr.heap.size (.slice (some ⟨ga, 0, none⟩) y.length ca) y) := Lib.hid (Beside.new o3 HR.out.cl)
      have HCV := Lib.hid (fun W (h : BOwn W wr.heap.size (.slice (some ⟨ga, 0, none⟩) y.length ca) y) => conv_own h)
      clear o3 b3 hy HF hc
      by_cases hy0 : y.length = 0
      · have hy0' : (y.length : Int) = 0 := by omega
        rw [hy0]
        go_wp2_with fail
        refine ⟨⟨k + 1, xs, S, by omega, by omega, by go_num, by rw [HFL.out], Lib.hid ⟨C3.out, Nat.le_succ_of_le HR.out.le, HR.out.small, I3.out⟩⟩, by simp [intOf]; omega⟩
      · have hy0' : ¬ (y.length : Int) = 0 := by omega
        have HSP : Hid (xs.flatten.length + y.length ≤ 10000) := Lib.hid (by have h1 := HR.out.small; have h2 := HXL.out; have h3 := HYL.out; omega)
        go_wp2_with fail
        refine (append_to w3 _ d S (sO xs) [102] _ y C3.out.ds (by show xs.length ≤ _; have := HXL.out; omega) (by show (-1 : Int) < _; decide) (by decide) (Seen.own BY3.out.own) BY3.out.out (Nat.le_trans HYL.out (by decide))).mono ?_
        rintro e w4 ⟨rfl, S4, h4, o4, s4⟩
        rw [sO_app xs y HSP.out] at h4
        rw [sO_app xs y HSP.out, show enoOf 0 = .nilIface from rfl]
        have C4 : Hid (Cl w w4 w.heap.size d S4 (sO (xs ++ [y]))) := Lib.hid (C3.out.step h4 o4 s4)
        have I4 := Lib.hid (I3.out.step o4 s4)
        have hcv := HCV.out w4 (BY3.out.step o4 s4).own
        have HZF : Hid (xs.flatten ++ y = (xs ++ [y]).flatten) := Lib.hid (by simp)
        have HOF := Lib.hid (offs_snoc xs y)
        have HZL : Hid ((xs ++ [y]).flatten.length = xs.flatten.length + y.length) := Lib.hid (by simp)
        obtain ⟨zs, hzs⟩ : ∃ zs, zs = (xs ++ [y]).flatten := ⟨_, rfl⟩
        have hcat : strOfNums fl ++ strOfNums y = strOfNums zs := by rw [hzs, ← HZF.out, strs_app, HFL.out]
        have hs1 := strOfNums_size fl
        have hlm : (fl.length : Int) + (y.length : Int) ≤ 10000 := by have := HSP.out; rw [HFL.out]; omega
        have hlm2 : ¬ 9223372036854775807 < (fl.length : Int) + (y.length : Int) := by omega
        have hs2 := strOfNums_size y
        obtain ⟨zl, hzl⟩ : ∃ zl, zl = zs.length := ⟨_, rfl⟩
        have hsz : (strOfNums zs).size = zl := by rw [hzl, strOfNums_size]
        have HZ : Hid (zl = (xs ++ [y]).flatten.length) := Lib.hid (by rw [hzl, hzs])
        have HZS := Lib.hid hzs
        clear hzs
        clear h4 o4 s4 hzl
        have HB5 : Hid (∀ j u, [Value.int .i64 (zl : Int)][j]? = some u → (w4.alloc (.cells #[.int .i64 (zl : Int)] 3)).cell? ((⟨w4.heap.size, 0, none⟩ : Addr).add j) = some u) := Lib.hid (World.news_of_block (cs := #[.int .i64 (zl : Int)]) (t := 3) (fr := (0, 0)) (heap_alloc_new w4 _))
        have IR : Hid (w4.ownsRow w.heap.size 3 1 u9 xs.length (is64 (offs xs))) := Lib.hid (by have := I4.out.own; rwa [offs_length] at this)
        have HBB : Hid (w.heap.size ≤ w4.heap.size) := Lib.hid C4.out.bel.size
        go_wp2_with (at_builtin; refine wpList_append_lies _ (by rfl) (.tmp 51) (.tmp 54) _ (by rfl) w.heap.size 3 i0 _ 1 8 Try.underlying22 hi0 hz0 hz1 hz2 rfl (by omega) u9 xs.length _ (by rfl) (IR.out.alloc _) ⟨w4.heap.size, 0, none⟩ 1 1 [Value.int .i64 (zl : Int)] (by rfl) (by rfl) HB5.out (by simp [Value.oneCell']) (by decide) HFT.out.1 HFT.out.2 (Nat.le_trans HBB.out (by simp)) (w4.heap.size + 1) (by simp) ?_; intro gg cap6 w6 own6 grow6 hat6 _; have O6 := Lib.hid own6; have G6 : Hid (Only (fun k => u9.ownBlock = some k) w4 w6) := Lib.hid (((Only.refl _ w4).alloc _).grown grow6 (fun k _ e => e)); have A6 := Lib.hid hat6; clear own6 grow6 hat6)
        refine ⟨⟨k + 1, xs ++ [y], S4, by omega, by omega, by go_num, by rw [HZS.out], Lib.hid ⟨?_, ?_, ?_, ?_⟩⟩, by simp [intOf]; omega⟩
        · exact ⟨C4.out.ds.kept G6.out (fun j hj _ e => I4.out.out j e hj), C4.out.bel.trans (G6.out.below HBB.out (fun j e => (I4.out.own.lt j e).1)), C4.out.ge⟩
        · rw [List.length_append, List.length_singleton]; have := HR.out.le; omega
        · rw [HZL.out, List.length_append, List.length_singleton]; have h1 := HR.out.small; have h2 := HYL.out; omega
        · refine ⟨?_, fun j hj hs => ?_⟩
          · have := O6.out
            rw [HOF.out, List.length_append, offs_length, List.length_singleton, show is64 (offs xs ++ [(xs ++ [y]).flatten.length]) = is64 (offs xs) ++ [Value.int .i64 (((xs ++ [y]).flatten.length : Nat) : Int)] from by simp [is64], ← HZ.out]
            exact this
          · simp only [Value.ownBlock, Option.some.injEq] at hj
            subst hj
            rcases A6.out with e | e
            · exact I4.out.out _ e hs
            · have := C4.out.ds.lt _ hs
              omega
    · by_cases h1 : k < n
      · have hk' : (k : Int) < n := by omega
        have hk'' : ¬ (k : Int) < 20 := by omega
        clear hlt
        have HCL := Lib.hid HR.out.cl
        have HIR := Lib.hid HR.out.row
        obtain ⟨pe, ce, hpe⟩ := own_slice HIR.out.own
        rw [offs_length] at hpe
        subst hpe
        have HSM := Lib.hid (Nat.le_trans HR.out.small (Nat.mul_le_mul_left 100 (Nat.le_trans HR.out.le hk20)))
        have HXL : Hid (xs.length ≤ 20) := Lib.hid (Nat.le_trans HR.out.le hk20)
        obtain ⟨m, hm⟩ : ∃ m, m = xs.length := ⟨_, rfl⟩
        have HM := Lib.hid hm
        have hm20 : m ≤ 20 := by rw [hm]; exact HXL.out
        rw [← hm]
        have hpn := pending_ds wr _ d S _ HCL.out.ds
        rw [show ((sO xs).pend.length) = m from by rw [hm]; simp [sO, wks]] at hpn
        have HPN := Lib.hid hpn
        clear HR hm hpn
        go_wp2_with fail
        refine HPN.out.mono ?_
        rintro e w' ⟨rfl, rfl⟩
        obtain ⟨r, hr, hrm, hr2⟩ := crash_mod (n := m) done (by omega)
        have HPK := Lib.hid (pick_to wr done ((m : Int) + 1) r (by omega) (by omega) hr.symm)
        clear hr hr2 HPN
        go_wp2_with fail
        refine HPK.out.mono ?_
        rintro e w' ⟨rfl, rfl⟩
        clear HPK
        go_wp2_with fail
        refine (crash_to wr _ d S _ r cut HCL.out.ds (by show xs.length ≤ _; have := HXL.out; omega)).mono ?_
        rintro e w5 ⟨rfl, S5, h5, o5, s5⟩
        rw [sO_crash xs cut r (by rw [← HM.out]; exact hrm)] at h5
        have C5 := Lib.hid (HCL.out.step h5 o5 s5)
        have I5 := Lib.hid (HIR.out.step o5 s5)
        clear h5 o5 s5 HCL HIR
        go_wp2_with fail
        refine (read_to w5 _ d S5 _ [102] C5.out.ds (by decide)).mono ?_
        rintro e w6 ⟨v6, rfl, o6, b6⟩
        have hfb : fbytes [102] ({ sO xs with kept := crashF [] (wks xs) r cut, pend := [], fuse := -1, dead := false } : St).files = leftO xs r cut := crashF_wks xs r cut
        simp only [Bool.false_eq_true, if_false] at o6 ⊢
        rw [hfb] at o6
        obtain ⟨now, hnow⟩ : ∃ now, now = leftO xs r cut := ⟨_, rfl⟩
        rw [← hnow] at o6
        have HNO : Hid (now = fl.take now.length ∧ (xs.take r).flatten.length ≤ now.length ∧ now.length ≤ (xs.take (r + 1)).flatten.length) := Lib.hid (by rw [hnow, HFL.out]; exact leftO_take xs r cut)
        have hcv := conv_own o6
        have C6 := Lib.hid (C5.out.kb b6)
        have I6 := Lib.hid (I5.out.kb b6)
        obtain ⟨p6, c6, rfl⟩ := own_slice o6
        have hpn := pending_ds w6 _ d S5 _ C6.out.ds
        have HPN : Hid (Calls Try.prog 19 #[.pointer (some ⟨d,0,none⟩)] w6 fun e w' => e = .returned (.int .i64 0) ∧ w6 = w') := Lib.hid hpn
        have hnl : now.length ≤ fl.length := by have := congrArg List.length HNO.out.1; rw [List.length_take] at this; omega
        have hnl' : ¬ (fl.length : Int) < (now.length : Int) := by omega
        have hs1 := strOfNums_size now
        have hs2 := strOfNums_size fl
        have hsl := slice_strs fl now.length hnl w6
        rw [← HNO.out.1] at hsl
        have hne := neq_str_self (strOfNums now) w6
        have hcell : Hid (∀ j, j < m → ∃ g, pe = some ⟨g, 0, none⟩ ∧ w6.cell? ⟨g, j, none⟩ = some (.int .i64 ((xs.take (j + 1)).flatten.length : Nat))) := Lib.hid (fun j hj => by
          have hjx : j < xs.length := by rw [← HM.out]; exact hj
          have hown : w6.ownsRow w.heap.size 3 1 (.slice pe xs.length ce) xs.length (is64 (offs xs)) := by have := I6.out.own; rwa [offs_length] at this
          rcases hown.2 with ⟨_, h0⟩ | ⟨g, cap', cur, he, _⟩
          · omega
          · cases he
            refine ⟨g, rfl, ?_⟩
            have := hown.cells (g := g) rfl j _ (offs_at xs hjx)
            rwa [Addr.add_lit, Nat.zero_add] at this)
        clear hpn hfb hnow o6 b6 C5 I5
        have hr0 : 0 ≤ (r : Int) := by omega
        by_cases hrlt : r < m
        · by_cases hr1 : r = 0
          · have hr0' : ¬ 0 < (r : Int) := by omega
            have hge : (0 : Int) ≤ (now.length : Int) := by omega
            clear hr1
            have hrm' : (r : Int) < m := by omega
            obtain ⟨g2, hg2, hc2⟩ := hcell.out r hrlt
            obtain ⟨Y, hY⟩ : ∃ Y : Nat, Y = (xs.take (r + 1)).flatten.length := ⟨_, rfl⟩
            have hle : (now.length : Int) ≤ (Y : Int) := by have := HNO.out.2.2; omega
            rw [← hY] at hc2
            clear hY
            subst hg2
            go_wp2_with (refine HPN.out.mono ?_; rintro e w' ⟨rfl, rfl⟩)
            go_ret
            exact ⟨rfl, C6.out.bel⟩
          · obtain ⟨j, hj⟩ : ∃ j, r = j + 1 := ⟨r - 1, by omega⟩
            have hrj : (r : Int) - 1 = (j : Int) := by omega
            have hwj : IntKind.i64.wrap (j : Int) = (j : Int) := IntWalk.i64_in _ (by omega)
            have hj0 : 0 ≤ (j : Int) := by omega
            have hjm : j < m := by omega
            have hjm' : (j : Int) < m := by omega
            have hr0' : 0 < (r : Int) := by omega
            obtain ⟨g, rfl, hc1⟩ := hcell.out j hjm
            obtain ⟨X, hX⟩ : ∃ X : Nat, X = (xs.take (j + 1)).flatten.length := ⟨_, rfl⟩
            have hge : (X : Int) ≤ (now.length : Int) := by have := HNO.out.2.1; rw [hj] at this; omega
            rw [← hX] at hc1
            clear hX
            have hrm' : (r : Int) < m := by omega
            obtain ⟨g2, hg2, hc2⟩ := hcell.out r hrlt
            obtain ⟨Y, hY⟩ : ∃ Y : Nat, Y = (xs.take (r + 1)).flatten.length := ⟨_, rfl⟩
            have hle : (now.length : Int) ≤ (Y : Int) := by have := HNO.out.2.2; omega
            rw [← hY] at hc2
            clear hY
            cases hg2
            clear hj
            go_wp2_with (refine HPN.out.mono ?_; rintro e w' ⟨rfl, rfl⟩)
            go_ret
            exact ⟨rfl, C6.out.bel⟩
        · by_cases hr1 : r = 0
          · have hr0' : ¬ 0 < (r : Int) := by omega
            have hge : (0 : Int) ≤ (now.length : Int) := by omega
            clear hr1
            have hrm' : ¬ (r : Int) < m := by omega
            have hle : (now.length : Int) ≤ (fl.length : Int) := by omega
            go_wp2_with (refine HPN.out.mono ?_; rintro e w' ⟨rfl, rfl⟩)
            go_ret
            exact ⟨rfl, C6.out.bel⟩
          · obtain ⟨j, hj⟩ : ∃ j, r = j + 1 := ⟨r - 1, by omega⟩
            have hrj : (r : Int) - 1 = (j : Int) := by omega
            have hwj : IntKind.i64.wrap (j : Int) = (j : Int) := IntWalk.i64_in _ (by omega)
            have hj0 : 0 ≤ (j : Int) := by omega
            have hjm : j < m := by omega
            have hjm' : (j : Int) < m := by omega
            have hr0' : 0 < (r : Int) := by omega
            obtain ⟨g, rfl, hc1⟩ := hcell.out j hjm
            obtain ⟨X, hX⟩ : ∃ X : Nat, X = (xs.take (j + 1)).flatten.length := ⟨_, rfl⟩
            have hge : (X : Int) ≤ (now.length : Int) := by have := HNO.out.2.1; rw [hj] at this; omega
            rw [← hX] at hc1
            clear hX
            have hrm' : ¬ (r : Int) < m := by omega
            have hle : (now.length : Int) ≤ (fl.length : Int) := by omega
            clear hj
            go_wp2_with (refine HPN.out.mono ?_; rintro e w' ⟨rfl, rfl⟩)
            go_ret
            exact ⟨rfl, C6.out.bel⟩
      · have hk' : ¬ (k : Int) < n := by omega
        clear hlt
        have HCL := Lib.hid HR.out.cl
        have HIR := Lib.hid HR.out.row
        obtain ⟨pe, ce, hpe⟩ := own_slice HIR.out.own
        rw [offs_length] at hpe
        subst hpe
        have HSM := Lib.hid (Nat.le_trans HR.out.small (Nat.mul_le_mul_left 100 (Nat.le_trans HR.out.le hk20)))
        have HXL : Hid (xs.length ≤ 20) := Lib.hid (Nat.le_trans HR.out.le hk20)
        obtain ⟨m, hm⟩ : ∃ m, m = xs.length := ⟨_, rfl⟩
        have HM := Lib.hid hm
        have hm20 : m ≤ 20 := by rw [hm]; exact HXL.out
        rw [← hm]
        have hpn := pending_ds wr _ d S _ HCL.out.ds
        rw [show ((sO xs).pend.length) = m from by rw [hm]; simp [sO, wks]] at hpn
        have HPN := Lib.hid hpn
        clear HR hm hpn
        go_wp2_with fail
        refine HPN.out.mono ?_
        rintro e w' ⟨rfl, rfl⟩
        obtain ⟨r, hr, hrm, hr2⟩ := crash_mod (n := m) done (by omega)
        have HPK := Lib.hid (pick_to wr done ((m : Int) + 1) r (by omega) (by omega) hr.symm)
        clear hr hr2 HPN
        go_wp2_with fail
        refine HPK.out.mono ?_
        rintro e w' ⟨rfl, rfl⟩
        clear HPK
        go_wp2_with fail
        refine (crash_to wr _ d S _ r cut HCL.out.ds (by show xs.length ≤ _; have := HXL.out; omega)).mono ?_
        rintro e w5 ⟨rfl, S5, h5, o5, s5⟩
        rw [sO_crash xs cut r (by rw [← HM.out]; exact hrm)] at h5
        have C5 := Lib.hid (HCL.out.step h5 o5 s5)
        have I5 := Lib.hid (HIR.out.step o5 s5)
        clear h5 o5 s5 HCL HIR
        go_wp2_with fail
        refine (read_to w5 _ d S5 _ [102] C5.out.ds (by decide)).mono ?_
        rintro e w6 ⟨v6, rfl, o6, b6⟩
        have hfb : fbytes [102] ({ sO xs with kept := crashF [] (wks xs) r cut, pend := [], fuse := -1, dead := false } : St).files = leftO xs r cut := crashF_wks xs r cut
        simp only [Bool.false_eq_true, if_false] at o6 ⊢
        rw [hfb] at o6
        obtain ⟨now, hnow⟩ : ∃ now, now = leftO xs r cut := ⟨_, rfl⟩
        rw [← hnow] at o6
        have HNO : Hid (now = fl.take now.length ∧ (xs.take r).flatten.length ≤ now.length ∧ now.length ≤ (xs.take (r + 1)).flatten.length) := Lib.hid (by rw [hnow, HFL.out]; exact leftO_take xs r cut)
        have hcv := conv_own o6
        have C6 := Lib.hid (C5.out.kb b6)
        have I6 := Lib.hid (I5.out.kb b6)
        obtain ⟨p6, c6, rfl⟩ := own_slice o6
        have hpn := pending_ds w6 _ d S5 _ C6.out.ds
        have HPN : Hid (Calls Try.prog 19 #[.pointer (some ⟨d,0,none⟩)] w6 fun e w' => e = .returned (.int .i64 0) ∧ w6 = w') := Lib.hid hpn
        have hnl : now.length ≤ fl.length := by have := congrArg List.length HNO.out.1; rw [List.length_take] at this; omega
        have hnl' : ¬ (fl.length : Int) < (now.length : Int) := by omega
        have hs1 := strOfNums_size now
        have hs2 := strOfNums_size fl
        have hsl := slice_strs fl now.length hnl w6
        rw [← HNO.out.1] at hsl
        have hne := neq_str_self (strOfNums now) w6
        have hcell : Hid (∀ j, j < m → ∃ g, pe = some ⟨g, 0, none⟩ ∧ w6.cell? ⟨g, j, none⟩ = some (.int .i64 ((xs.take (j + 1)).flatten.length : Nat))) := Lib.hid (fun j hj => by
          have hjx : j < xs.length := by rw [← HM.out]; exact hj
          have hown : w6.ownsRow w.heap.size 3 1 (.slice pe xs.length ce) xs.length (is64 (offs xs)) := by have := I6.out.own; rwa [offs_length] at this
          rcases hown.2 with ⟨_, h0⟩ | ⟨g, cap', cur, he, _⟩
          · omega
          · cases he
            refine ⟨g, rfl, ?_⟩
            have := hown.cells (g := g) rfl j _ (offs_at xs hjx)
            rwa [Addr.add_lit, Nat.zero_add] at this)
        clear hpn hfb hnow o6 b6 C5 I5
        have hr0 : 0 ≤ (r : Int) := by omega
        by_cases hrlt : r < m
        · by_cases hr1 : r = 0
          · have hr0' : ¬ 0 < (r : Int) := by omega
            have hge : (0 : Int) ≤ (now.length : Int) := by omega
            clear hr1
            have hrm' : (r : Int) < m := by omega
            obtain ⟨g2, hg2, hc2⟩ := hcell.out r hrlt
            obtain ⟨Y, hY⟩ : ∃ Y : Nat, Y = (xs.take (r + 1)).flatten.length := ⟨_, rfl⟩
            have hle : (now.length : Int) ≤ (Y : Int) := by have := HNO.out.2.2; omega
            rw [← hY] at hc2
            clear hY
            subst hg2
            go_wp2_with (refine HPN.out.mono ?_; rintro e w' ⟨rfl, rfl⟩)
            go_ret
            exact ⟨rfl, C6.out.bel⟩
          · obtain ⟨j, hj⟩ : ∃ j, r = j + 1 := ⟨r - 1, by omega⟩
            have hrj : (r : Int) - 1 = (j : Int) := by omega
            have hwj : IntKind.i64.wrap (j : Int) = (j : Int) := IntWalk.i64_in _ (by omega)
            have hj0 : 0 ≤ (j : Int) := by omega
            have hjm : j < m := by omega
            have hjm' : (j : Int) < m := by omega
            have hr0' : 0 < (r : Int) := by omega
            obtain ⟨g, rfl, hc1⟩ := hcell.out j hjm
            obtain ⟨X, hX⟩ : ∃ X : Nat, X = (xs.take (j + 1)).flatten.length := ⟨_, rfl⟩
            have hge : (X : Int) ≤ (now.length : Int) := by have := HNO.out.2.1; rw [hj] at this; omega
            rw [← hX] at hc1
            clear hX
            have hrm' : (r : Int) < m := by omega
            obtain ⟨g2, hg2, hc2⟩ := hcell.out r hrlt
            obtain ⟨Y, hY⟩ : ∃ Y : Nat, Y = (xs.take (r + 1)).flatten.length := ⟨_, rfl⟩
            have hle : (now.length : Int) ≤ (Y : Int) := by have := HNO.out.2.2; omega
            rw [← hY] at hc2
            clear hY
            cases hg2
            clear hj
            go_wp2_with (refine HPN.out.mono ?_; rintro e w' ⟨rfl, rfl⟩)
            go_ret
            exact ⟨rfl, C6.out.bel⟩
        · by_cases hr1 : r = 0
          · have hr0' : ¬ 0 < (r : Int) := by omega
            have hge : (0 : Int) ≤ (now.length : Int) := by omega
            clear hr1
            have hrm' : ¬ (r : Int) < m := by omega
            have hle : (now.length : Int) ≤ (fl.length : Int) := by omega
            go_wp2_with (refine HPN.out.mono ?_; rintro e w' ⟨rfl, rfl⟩)
            go_ret
            exact ⟨rfl, C6.out.bel⟩
          · obtain ⟨j, hj⟩ : ∃ j, r = j + 1 := ⟨r - 1, by omega⟩
            have hrj : (r : Int) - 1 = (j : Int) := by omega
            have hwj : IntKind.i64.wrap (j : Int) = (j : Int) := IntWalk.i64_in _ (by omega)
            have hj0 : 0 ≤ (j : Int) := by omega
            have hjm : j < m := by omega
            have hjm' : (j : Int) < m := by omega
            have hr0' : 0 < (r : Int) := by omega
            obtain ⟨g, rfl, hc1⟩ := hcell.out j hjm
            obtain ⟨X, hX⟩ : ∃ X : Nat, X = (xs.take (j + 1)).flatten.length := ⟨_, rfl⟩
            have hge : (X : Int) ≤ (now.length : Int) := by have := HNO.out.2.1; rw [hj] at this; omega
            rw [← hX] at hc1
            clear hX
            have hrm' : ¬ (r : Int) < m := by omega
            have hle : (now.length : Int) ≤ (fl.length : Int) := by omega
            clear hj
            go_wp2_with (refine HPN.out.mono ?_; rintro e w' ⟨rfl, rfl⟩)
            go_ret
            exact ⟨rfl, C6.out.bel⟩
end Go.Proofs.Ytemfblhlkonlpaa
