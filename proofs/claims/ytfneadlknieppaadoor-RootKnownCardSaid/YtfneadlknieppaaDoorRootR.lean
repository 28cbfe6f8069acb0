/- What Read and Load answer. The bytes are bytes, within what a slice may take up. -/
import Derived.Test.YtfneadlknieppaaDoorRootD
import Derived.Test.YtfneadlknieppaaDoorFrmK
import Derived.Test.YtfneadlknieppaaDoorDskN
import Derived.Test.YtfneadlknieppaaDoorLogD
import Derived.Lib.Bytes
namespace Go.Proofs.YtfneadlknieppaaDoor
open Go.RowKit
open Go.Maps

/-- What Read answers. -/
def RdPost (w : World) (b : List Int) (e : Ending) (w' : World) : Prop := ∃ g v i c ls, e = .returned (.tuple #[rtv g v i, enoOf c]) ∧ IOwn w' w.heap.size v ls ∧ RdIs b c ⟨g, ls, i⟩ ∧ Below w.heap.size w w'
theorem strs_inj {l m : List Int} (hl : Okb l) (hm : Okb m) (h : strOfNums l = strOfNums m) : l = m := by
  have h1 : l.map (fun n => UInt8.ofNat n.toNat) = m.map fun n => UInt8.ofNat n.toNat := by
    rw [← strOfNums_data, ← strOfNums_data, h]
  have hlen : l.length = m.length := by simpa using congrArg List.length h1
  refine List.ext_getElem hlen fun i hi hj => ?_
  have h2 := congrArg (fun x => x[i]?) h1
  simp only [List.getElem?_map, List.getElem?_eq_getElem hi, List.getElem?_eq_getElem hj, Option.map_some, Option.some.injEq] at h2
  have h3 := congrArg UInt8.toNat h2
  have a := hl _ (List.getElem_mem hi)
  have b := hm _ (List.getElem_mem hj)
  simp only [UInt8.toNat_ofNat'] at h3
  omega
theorem strs_beq {l m : List Int} (hl : Okb l) (hm : Okb m) : ((strOfNums l).toList == (strOfNums m).toList) = decide (l = m) := by
  by_cases h : l = m
  · subst h; simp
  · rw [decide_eq_false h, beq_eq_false_iff_ne, Lib.strOfNums_toList, Lib.strOfNums_toList]
    exact fun e => h (strs_inj hl hm (by
      have e1 : (strOfNums l).data.toList = (strOfNums m).data.toList := e
      exact ByteArray.ext (Array.toList_inj.1 e1)))
theorem equal_to (w : World) (u v : Value) (l m : List Int) (hu : SeenR w u l) (hv : SeenR w v m) (ol : Okb l) (om : Okb m) : Calls Tryd.prog 31 #[u, v] w fun e w' => e = .returned (.bool (decide (l = m))) ∧ w = w' := by
  obtain ⟨pu, cu, rfl⟩ := len_val hu.seen
  obtain ⟨pv, cv, rfl⟩ := len_val hv.seen
  have c1 := conv_any hu
  have c2 := conv_any hv
  rw [← strs_beq ol om]
  clear hu hv
  go_enter Tryd.func31, Tryd.ntmps31
  go_wp2_with fail
  go_ret
  exact ⟨rfl, rfl⟩
set_option maxRecDepth 20000 in
set_option maxHeartbeats 4000000 in
theorem rread_root (w : World) (u : Value) (b : List Int) (ok : Okb b) (hl : b.length ≤ 140737488351232) (hs : SeenR w u b) :
    Calls Tryd.prog 8 #[u] w (RdPost w b) := by
  unfold RdPost
  have B1 : Hid (Below w.heap.size w (w.alloc (.cells #[.int .i64 0, .slice none 0 0, .int .i64 0] 24))) := Lib.hid ((Below.refl _ w).alloc (Nat.le_refl _) _)
  have H1 : Hid ((w.alloc (.cells #[.int .i64 0, .slice none 0 0, .int .i64 0] 24)).heap[w.heap.size]? = some (.cells #[.int .i64 0, .slice none 0 0, .int .i64 0] 24 (0, 0))) := Lib.hid (heap_alloc_last w _)
  obtain ⟨K, hK⟩ : ∃ K, K = nxt b := ⟨_, rfl⟩
  have HS := Lib.hid hs
  have HN := Lib.hid (next_own (w.alloc (.cells #[.int .i64 0, .slice none 0 0, .int .i64 0] 24)) u b (k := K.1) (xs := K.2.1) (n := K.2.2.1) (c := K.2.2.2) hK.symm ok hl (hs.kb B1.out))
  have HK := Lib.hid hK
  have OKX : Hid (Okb K.2.1) := Lib.hid (by rw [hK]; exact nxt_ok ok)
  obtain ⟨pu, cu, rfl⟩ := len_val hs.seen
  clear hs hK
  obtain ⟨k, X, nn, c⟩ := K
  simp only at HN OKX
  go_enter Tryd.func8, Tryd.ntmps8
  go_wp2_with fail
  refine HN.out.mono ?_
  rintro e w2 ⟨u2, rfl, ou, b2⟩
  have B2 : Hid (Below w.heap.size w w2) := Lib.hid (B1.out.trans (b2.mono (by simp)))
  have H2 := Lib.hid ((b2.block _ (lt_of_block H1.out)).trans H1.out)
  have OU := Lib.hid ou
  obtain ⟨px, cx, rfl⟩ := own_slice ou
  clear b2 ou HN H1 B1
  obtain ⟨r0, r1, r2, rf⟩ := three_cells H2.out
  by_cases hc : c = 0
  case neg =>
    have hE : errOf c = kind c := if_neg hc
    have HR : Hid (RdIs b c Rt.zero) := Lib.hid (by
      have h1 : (nxt b).2.2.2 = c := by rw [← HK.out]
      have := rdis_bad (b := b) (by rw [h1]; exact hc)
      rwa [h1] at this)
    have HC := Lib.hid hc
    rw [hE]
    clear hE hc
    go_wp2_with fail
    (try simp only [Exit.inBlock, Exit.then])
    refine bodyPost_ret (res_two rfl _ _ w.heap.size _ _ (0, 0) _ rfl (set3 H2.out) Tryd.underlying24 rfl (by kernel_rfl)) rfl ?_
    have o := only3 (Only.refl (fun k => k = w.heap.size) w2) rfl (.int .i64 0) (.slice none 0 0) (.int .i64 0)
    exact ⟨0, .slice none 0 0, 0, c, [], by rw [show enoOf c = eno c from if_neg HC.out]; rfl, World.ownsRow_nil _ _ _ _, HR.out, B2.out.trans (o.below B2.out.size (fun k hk => by omega))⟩
  case pos =>
    subst hc
    rw [show errOf 0 = .nilIface from rfl]
    have HX0 : Hid (nxt b = (k, X, nn, 0)) := Lib.hid HK.out.symm
    have HXL : Hid (X.length ≤ 140737488351232) := Lib.hid (by
      have h1 := nxt_size ok (by rw [HX0.out])
      rw [HX0.out] at h1
      have := h1.2.2.2.2.1
      simp only at this
      omega)
    go_wp2_with fail
    refine (rdecode_to w2 _ X HXL.out OKX.out (Seen.own OU.out)).mono ?_
    rintro e w3 ⟨g, v, i, ls, rfl, ov, l8, dd, b3⟩
    obtain ⟨pv, cv, rfl⟩ := own_slice ov
    have HDI : Hid (DecIs (nxt b).2.1 ⟨g, ls, i⟩) := Lib.hid (by rw [HX0.out]; exact dd)
    have OV := Lib.hid ov
    have B3 : Hid (Below w.heap.size w w3) := Lib.hid (B2.out.trans (b3.mono B2.out.size))
    have H3 := Lib.hid ((b3.block _ (lt_of_block H2.out)).trans H2.out)
    have HM : Hid (w.heap.size < w2.heap.size) := Lib.hid (lt_of_block H2.out)
    have L8 := Lib.hid l8
    clear ov dd b3 r0 r1 r2 rf H2 B2 OU
    go_wp2_with fail
    have HQ : Hid ((w3.alloc (.cells #[.int .i64 g, .slice pv ls.length cv, .int .i64 i] 24)).heap[w3.heap.size]? = some (.cells #[.int .i64 g, .slice pv ls.length cv, .int .i64 i] 24 (0, 0))) := Lib.hid (heap_alloc_last w3 _)
    have BQ : Hid (Below w3.heap.size w3 (w3.alloc (.cells #[.int .i64 g, .slice pv ls.length cv, .int .i64 i] 24))) := Lib.hid ((Below.refl _ w3).alloc (Nat.le_refl _) _)
    generalize w3.alloc (.cells #[.int .i64 g, .slice pv ls.length cv, .int .i64 i] 24) = w4 at HQ BQ ⊢
    have B4 : Hid (Below w.heap.size w w4) := Lib.hid (B3.out.trans (BQ.out.mono B3.out.size))
    have OV4 := Lib.hid (own_kb OV.out BQ.out)
    have H4 := Lib.hid ((BQ.out.block _ (lt_of_block H3.out)).trans H3.out)
    refine (rlay_to w4 g i _ ls (ISeen.own OV4.out)).mono ?_
    rintro e w5 ⟨v5, rfl, o5, b5⟩
    have O5 := Lib.hid o5
    have B5 : Hid (Below w.heap.size w w5) := Lib.hid (B4.out.trans (b5.mono B4.out.size))
    have OV5 := Lib.hid (own_kb OV4.out b5)
    have H5 := Lib.hid ((b5.block _ (lt_of_block H4.out)).trans H4.out)
    have Q5 := Lib.hid ((b5.block _ (lt_of_block HQ.out)).trans HQ.out)
    have S5 : Hid (SeenR w5 (.slice pu b.length cu) b) := Lib.hid (HS.out.kb B5.out)
    clear o5 b5 B3 B4 OV OV4 H3 H4 HQ BQ
    obtain ⟨q, hq⟩ : ∃ q, q = w3.heap.size := ⟨_, rfl⟩
    rw [← hq] at Q5 ⊢
    clear hq
    obtain ⟨q0, q1, q2, qf⟩ := three_cells Q5.out
    obtain ⟨r0, r1, r2, rf⟩ := three_cells H5.out
    have HZ : Hid (∃ w6, w6 = ((w5.setCell ⟨w.heap.size, 0, none⟩ (.int .i64 0)).setCell ⟨w.heap.size, 1, none⟩ (.slice none 0 0)).setCell ⟨w.heap.size, 2, none⟩ (.int .i64 0)) := Lib.hid ⟨_, rfl⟩
    by_cases hok : okR ⟨g, ls, i⟩ = true
    case neg =>
      have HF := Lib.hid (rdis_form (b := b) (r := ⟨g, ls, i⟩) (by rw [HX0.out]) HDI.out (fun e => hok e.1))
      rw [layR_no hok, show enoOf 1 = eno 1 from rfl]
      clear hok HZ
      go_wp2_with fail
      (try simp only [Exit.inBlock, Exit.then])
      refine bodyPost_ret (res_two rfl _ _ w.heap.size _ _ (0, 0) _ rfl (set3 H5.out) Tryd.underlying24 rfl (by kernel_rfl)) rfl ?_
      have o := only3 (Only.refl (fun k => k = w.heap.size) w5) rfl (.int .i64 0) (.slice none 0 0) (.int .i64 0)
      exact ⟨0, .slice none 0 0, 0, 2, [], rfl, World.ownsRow_nil _ _ _ _, HF.out, B5.out.trans (o.below B5.out.size (fun k hk => by omega))⟩
    case pos =>
      rw [layR_yes hok] at O5
      rw [layR_yes hok, show enoOf 0 = .nilIface from rfl]
      obtain ⟨p5, c5, rfl⟩ := own_slice O5.out
      have HEQ := Lib.hid (equal_to w5 _ _ _ _ (SeenR.own O5.out) S5.out (encR_ok _) ok)
      by_cases hb : encR ⟨g, ls, i⟩ = b
      case neg =>
        have HF := Lib.hid (rdis_form (b := b) (r := ⟨g, ls, i⟩) (by rw [HX0.out]) HDI.out (fun e => hb e.2))
        rw [decide_eq_false hb] at HEQ
        clear hok hb HZ
        go_wp2_with (go_at_call 31; refine HEQ.out.mono ?_; rintro e w' ⟨rfl, rfl⟩)
        (try simp only [Exit.inBlock, Exit.then])
        refine bodyPost_ret (res_two rfl _ _ w.heap.size _ _ (0, 0) _ rfl (set3 H5.out) Tryd.underlying24 rfl (by kernel_rfl)) rfl ?_
        have o := only3 (Only.refl (fun k => k = w.heap.size) w5) rfl (.int .i64 0) (.slice none 0 0) (.int .i64 0)
        exact ⟨0, .slice none 0 0, 0, 2, [], rfl, World.ownsRow_nil _ _ _ _, HF.out, B5.out.trans (o.below B5.out.size (fun k hk => by omega))⟩
      case pos =>
        have HF := Lib.hid (rdis_good (b := b) (r := ⟨g, ls, i⟩) (by rw [HX0.out]) hok hb)
        rw [decide_eq_true hb] at HEQ
        clear hok hb HZ
        go_wp2_with (go_at_call 31; refine HEQ.out.mono ?_; rintro e w' ⟨rfl, rfl⟩)
        (try simp only [Exit.inBlock, Exit.then])
        refine bodyPost_ret (res_two rfl _ _ w.heap.size _ _ (0, 0) _ rfl (set3 H5.out) Tryd.underlying24 rfl (by kernel_rfl)) rfl ?_
        have o := only3 (Only.refl (fun k => k = w.heap.size) w5) rfl (.int .i64 g) (.slice pv ls.length cv) (.int .i64 i)
        exact ⟨g, _, i, 0, ls, rfl, (own_kept OV5.out o (fun k hk e => by have := (OV5.out.lt k hk).1; have := HM.out; omega)).mono (Nat.le_of_lt HM.out), HF.out, B5.out.trans (o.below B5.out.size (fun k hk => by omega))⟩
theorem DS.rlen {w : World} {B b : Nat} {S : Nat → Prop} {s : St} (h : DS w B b S s) (nm : Key) : (rdS s nm).length ≤ 16777216 := by
  obtain ⟨c, L, P, hx⟩ := h
  have h1 := bytesAt_le nm L
  have h2 := hx.hist.last.tot
  rw [← hx.fb, fb_tot] at h2
  have h3 : s.files = fb L := hx.fb.symm
  unfold rdS
  split
  · simp
  · rw [h3, fb_bytes]
    omega
theorem read_rd (w : World) (B b : Nat) (S : Nat → Prop) (s : St) (n : Key) (h : DS w B b S s) (hn : n.length ≤ maxLen) :
    Calls Tryd.prog 23 #[.pointer (some ⟨b,0,none⟩), stv n] w fun e w' => ∃ v, e = .returned (.tuple #[v, .bool (ex s n)]) ∧ BOwn w' w.heap.size v (rdS s n) ∧ Below w.heap.size w w' := read_to w B b S s n h hn
/-- What Load answers. -/
def LdPost (w : World) (s : St) (e : Ending) (w' : World) : Prop := ∃ g v i c ls, e = .returned (.tuple #[rtv g v i, enoOf c]) ∧ IOwn w' w.heap.size v ls ∧ LdIs s c ⟨g, ls, i⟩ ∧ Below w.heap.size w w'
theorem load_none (w : World) : Calls Tryd.prog 6 #[.pointer none] w fun e w' => e = .returned (.tuple #[rtv 0 (.slice none 0 0) 0, eno 1]) ∧ Below w.heap.size w w' := by
  have H1 : Hid ((w.alloc (.cells #[.int .i64 0, .slice none 0 0, .int .i64 0] 24)).heap[w.heap.size]? = some (.cells #[.int .i64 0, .slice none 0 0, .int .i64 0] 24 (0, 0))) := Lib.hid (heap_alloc_last w _)
  have B1 : Hid (Below w.heap.size w (w.alloc (.cells #[.int .i64 0, .slice none 0 0, .int .i64 0] 24))) := Lib.hid ((Below.refl _ w).alloc (Nat.le_refl _) _)
  go_enter Tryd.func6, Tryd.ntmps6
  go_wp2_with fail
  (try simp only [Exit.inBlock, Exit.then])
  refine bodyPost_ret (res_two rfl _ _ w.heap.size _ _ (0, 0) _ rfl (heap_alloc_last w _) Tryd.underlying24 rfl (by kernel_rfl)) rfl ?_
  exact ⟨rfl, B1.out⟩
set_option maxRecDepth 20000 in
set_option maxHeartbeats 4000000 in
theorem rload_to (w : World) (B d : Nat) (S : Nat → Prop) (s : St) (h : DS w B d S s) (ok : Okb (rdS s rtN)) :
    Calls Tryd.prog 6 #[.pointer (some ⟨d, 0, none⟩)] w (LdPost w s) := by
  unfold LdPost
  have H1 : Hid ((w.alloc (.cells #[.int .i64 0, .slice none 0 0, .int .i64 0] 24)).heap[w.heap.size]? = some (.cells #[.int .i64 0, .slice none 0 0, .int .i64 0] 24 (0, 0))) := Lib.hid (heap_alloc_last w _)
  have B1 : Hid (Below w.heap.size w (w.alloc (.cells #[.int .i64 0, .slice none 0 0, .int .i64 0] 24))) := Lib.hid ((Below.refl _ w).alloc (Nat.le_refl _) _)
  have HR := Lib.hid (read_rd _ B d S s rtN (h.kb B1.out) (by unfold maxLen; decide))
  have HL := Lib.hid (h.rlen rtN)
  have OK := Lib.hid ok
  obtain ⟨b, hb⟩ : ∃ z, z = rdS s rtN := ⟨_, rfl⟩
  have HB := Lib.hid hb
  rw [← hb] at HR HL OK
  clear h ok hb
  go_enter Tryd.func6, Tryd.ntmps6
  go_wp2_with fail
  refine HR.out.mono ?_
  rintro e w2 ⟨v2, rfl, o2, b2⟩
  have B2 : Hid (Below w.heap.size w w2) := Lib.hid (B1.out.trans (b2.mono (by simp)))
  have H2 := Lib.hid ((b2.block _ (lt_of_block H1.out)).trans H1.out)
  have O2 := Lib.hid o2
  obtain ⟨p2, c2, rfl⟩ := own_slice o2
  clear o2 b2 H1 B1 HR
  obtain ⟨r0, r1, r2, rf⟩ := three_cells H2.out
  by_cases hx : ex s rtN = true
  case neg =>
    have HF : Hid (LdIs s 11 Rt.zero) := Lib.hid (by unfold LdIs; rw [if_neg hx]; exact ⟨rfl, rfl⟩)
    have hx' : ex s rtN = false := by simpa using hx
    rw [hx']
    clear hx hx'
    go_wp2_with fail
    (try simp only [Exit.inBlock, Exit.then])
    refine bodyPost_ret (res_two rfl _ _ w.heap.size _ _ (0, 0) _ rfl (set3 H2.out) Tryd.underlying24 rfl (by kernel_rfl)) rfl ?_
    have o := only3 (Only.refl (fun k => k = w.heap.size) w2) rfl (.int .i64 0) (.slice none 0 0) (.int .i64 0)
    exact ⟨0, .slice none 0 0, 0, 11, [], rfl, World.ownsRow_nil _ _ _ _, HF.out, B2.out.trans (o.below B2.out.size (fun k hk => by omega))⟩
  case pos =>
    have HF : Hid (∀ c r, RdIs b c r → LdIs s c r) := Lib.hid (fun c r h => by unfold LdIs; rw [if_pos hx, ← HB.out]; exact h)
    rw [hx]
    clear hx r0 r1 r2 rf
    go_wp2_with fail
    refine (rread_root w2 _ b OK.out (Nat.le_trans HL.out (by decide)) (SeenR.own O2.out)).mono ?_
    rintro e w3 ⟨g, v, i, c, ls, rfl, ov, hr, b3⟩
    obtain ⟨pv, cv, rfl⟩ := own_slice ov
    have B3 : Hid (Below w.heap.size w w3) := Lib.hid (B2.out.trans (b3.mono B2.out.size))
    have H3 := Lib.hid ((b3.block _ (lt_of_block H2.out)).trans H2.out)
    have OV := Lib.hid ov
    have HRI := Lib.hid (HF.out _ _ hr)
    have HM : Hid (w.heap.size < w2.heap.size) := Lib.hid (lt_of_block H2.out)
    obtain ⟨ce, hce⟩ : ∃ z, z = enoOf c := ⟨_, rfl⟩
    have HCE := Lib.hid hce
    rw [← hce]
    clear ov b3 hr hce B2 H2
    obtain ⟨r0, r1, r2, rf⟩ := three_cells H3.out
    go_wp2_with fail
    (try simp only [Exit.inBlock, Exit.then])
    refine bodyPost_ret (res_two rfl _ _ w.heap.size _ _ (0, 0) _ rfl (set3 H3.out) Tryd.underlying24 rfl (by kernel_rfl)) rfl ?_
    have o := only3 (Only.refl (fun k => k = w.heap.size) w3) rfl (.int .i64 g) (.slice pv ls.length cv) (.int .i64 i)
    exact ⟨g, _, i, c, ls, by rw [← HCE.out]; rfl, (own_kept OV.out o (fun k hk e => by have := (OV.out.lt k hk).1; have := HM.out; omega)).mono (Nat.le_of_lt HM.out), HRI.out, B3.out.trans (o.below B3.out.size (fun k hk => by omega))⟩
end Go.Proofs.YtfneadlknieppaaDoor
