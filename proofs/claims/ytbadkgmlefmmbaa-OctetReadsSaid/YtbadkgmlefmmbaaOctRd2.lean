/- The walk of OctetReads: it returns true, and nothing that was there has turned. -/
import Derived.Test.YtbadkgmlefmmbaaOctRd1
namespace Go.Proofs.Ytbadkgmlefmmbaa
open Go.RowKit

section
variable {T B b : Nat} {w : World} {v : Value} {l : List Int} {lk : Bool}
theorem Rd.drewN (h : Rd T B w b v l lk) (n : Nat) : Rd T B (w.drewN n) b v l lk := h.kept (S := fun _ => False) ⟨rfl, rfl, rfl, Nat.le_refl _, fun _ _ _ => rfl⟩ (fun h => h) (fun _ _ h => h)
end

theorem own_seen {w : World} {B n : Nat} {v : Value} {l : List Int} (h : w.ownsRow B 5 1 v n (us l)) (hl : l.length = n) : Seen w v l := by
  subst hl
  exact Seen.own h
/-- A reference's Reader that has just been made. -/
theorem rd_new {B g c n D : Nat} {w : World} {l : List Int} (h : w.ownsRow D 5 1 (.slice (some ⟨g, 0, none⟩) n c) l.length (us l)) (hg : B ≤ g) (hB : B ≤ w.heap.size) (hok : Okb l) (hl : l.length ≤ 140737488351232) :
    Rd 43 B (w.alloc (.cells #[.slice (some ⟨g, 0, none⟩) n c, .bool false] 43)) w.heap.size (.slice (some ⟨g, 0, none⟩) n c) l false := by
  have hlt := (h.lt g rfl).2
  refine ⟨hB, heap_alloc_new w _, (SeenR.own h).kept fun k hk => ?_, fun k hk => ?_, hok, hl, by simp⟩
  · exact Below.heap_alloc _ _ _ (h.lt k hk).2
  · cases hk
    exact ⟨hg, Nat.ne_of_lt hlt, by simp; omega⟩

set_option maxRecDepth 100000 in
set_option maxHeartbeats 3200000 in
theorem octetReads_walk (v0 : Value) (l0 : List Int) (hl0 : l0.length ≤ 140737488351232) (hok0 : Okb l0) (ao : Option Addr) (len cap : Nat) (W N : Nat → Int) (high : Bool) (w : World) (hlen : len ≤ 9223372036854775807)
    (hs0 : Seen w v0 l0) (hv0 : ∃ a c, v0 = .slice a l0.length c)
    (hst : Hid (∀ i, i < len → (∃ V, StepAt w ao i (W i) (N i) V) ∧ -9223372036854775808 ≤ N i ∧ N i ≤ 9223372036854775807)) :
    Calls Try.prog 5 #[v0, .slice ao len cap, .bool high] w fun e w' => e = .returned (.bool true) ∧ Below w.heap.size w w' := by
  obtain ⟨k, hk1, hk2, hk3⟩ : ∃ k, k ≤ len ∧ k ≤ 40 ∧ (len ≤ k ∨ 40 ≤ k) := ⟨min len 40, by omega, by omega, by omega⟩
  obtain ⟨a00, c00, rfl⟩ := hv0
  have HL0 := Lib.hid hl0
  have HK0 := Lib.hid hok0
  have HS0 := Lib.hid hs0
  clear hok0 hs0
  go_enter Try.func5, Try.ntmps5
  go_wp2_with fail
  refine (few_any _ _ l0 _ rfl HL0.out HS0.out).mono ?_
  rintro e w1 ⟨g, gc, rfl, h1, bl1⟩
  have H1 := Lib.hid h1
  have B1 := Lib.hid bl1
  have hgB := Lib.hid (h1.lt g rfl)
  clear h1 bl1
  obtain ⟨n0, hn0⟩ : ∃ n0, n0 = l0.length := ⟨_, rfl⟩
  rw [← hn0] at hl0 H1
  rw [← hn0]
  have HN0 := Lib.hid hn0
  clear hn0
  cases high
  case' true =>
    go_wp2_with fail
    go_loopw [8] (fun t wr => ∃ (i : Nat) (lc : List Int), i ≤ n0 ∧ t = .int .i64 i ∧ Hid (lc.length = n0) ∧ Hid (Okb lc) ∧ Hid (wr.ownsRow w.heap.size 5 1 (.slice (some ⟨g, 0, none⟩) n0 gc) n0 (us lc)) ∧ Hid (Below w.heap.size w wr)) (fun t _ => n0 - (intOf t).toNat)
    case atStart => exact ⟨0, l0, Nat.zero_le _, rfl, Lib.hid HN0.out.symm, HK0, H1, B1⟩
    case round =>
      obtain ⟨i, lc, hi, rfl, HLC, HKC, HC, HB⟩ := hrel
      by_cases hlt : i < n0
      · obtain ⟨x, hx⟩ : ∃ x, lc[i]? = some x := ⟨_, List.getElem?_eq_getElem (by rw [HLC.out]; exact hlt)⟩
        have hcell := HC.out.cellAt i (by omega)
        rw [us, List.getElem?_map, hx] at hcell
        simp only [Option.map_some] at hcell
        have hfz := HC.out.frozenAt i
        obtain ⟨hx0, hx1⟩ := HKC.out x (List.mem_of_getElem? hx)
        have h128 := Lib.u8_or128_any x hx0 hx1
        clear hx
        go_wp2_with fail
        obtain ⟨hs1, hs2⟩ := HC.out.stored i (.int .u8 (x % 128 + 128))
        refine ⟨⟨i + 1, lc.set i (x % 128 + 128), by omega, by go_num, Lib.hid (by rw [List.length_set]; exact HLC.out), Lib.hid (fun y hy => by rcases List.mem_or_eq_of_mem_set hy with hy | rfl; exact HKC.out y hy; omega), Lib.hid (by rw [us, List.map_set]; exact hs1), Lib.hid (HB.out.setCell (show w.heap.size ≤ g from hgB.out.1) _)⟩, by simp [intOf]; omega⟩
      · have hin : n0 ≤ i := by omega
        clear hlt
        go_wp2_with fail
        refine (newreader_any _ w.heap.size HB.out.size _ lc (by rw [HLC.out]; exact hl0) HKC.out (own_seen HC.out HLC.out)).mono ?_
        rintro e w2 ⟨bx, vx, rfl, r2, bl2, bb2, hv2⟩
        have RX2 := Lib.hid r2
        have HC2 := Lib.hid (HC.out.kept (row := none) ⟨bl2.os, bl2.tape, bl2.output, bl2.size, fun k hk _ => bl2.block k hk⟩ (.inr (by simp [Value.ownBlock])))
        have HB2 := Lib.hid (HB.out.trans (bl2.mono HB.out.size))
        clear r2 bl2 bb2 hv2
        go_wp2_with fail
        refine (known_any _).mono ?_
        rintro e w3 ⟨rfl, bl3⟩
        have RX3 := Lib.hid (RX2.out.kb bl3)
        have HC3 := Lib.hid (HC2.out.kept (row := none) ⟨bl3.os, bl3.tape, bl3.output, bl3.size, fun k hk _ => bl3.block k hk⟩ (.inr (by simp [Value.ownBlock])))
        have HB3 := Lib.hid (HB2.out.trans (bl3.mono HB2.out.size))
        clear bl3
        go_wp2_with fail
        refine (few_any _ _ lc _ (by rw [HLC.out]) (by rw [HLC.out]; exact hl0) (own_seen HC3.out HLC.out)).mono ?_
        rintro e w4 ⟨g4, c4, rfl, h4, bl4⟩
        have RX4 := Lib.hid (RX3.out.kb bl4)
        have HB4 := Lib.hid (HB3.out.trans (bl4.mono HB3.out.size))
        have hbx4 := RX4.out.lt
        have HOX := Lib.hid fun j hj => (RX4.out.own j hj).2.2
        have hgl := h4.lt g4 rfl
        have hg4b := Lib.hid (show g4 ≠ bx from by have := RX3.out.lt; omega)
        have RS4 := Lib.hid (rd_new (B := w.heap.size) h4 (Nat.le_trans HB3.out.size hgl.1) HB4.out.size HKC.out (by rw [HLC.out]; exact hl0))
        have RX5 := Lib.hid (RX4.out.kb ((Below.refl _ w4).alloc (Nat.le_refl _) (.cells #[.slice (some ⟨g4, 0, none⟩) lc.length c4, .bool false] 43)))
        have HB5 := Lib.hid (HB4.out.alloc HB4.out.size (.cells #[.slice (some ⟨g4, 0, none⟩) lc.length c4, .bool false] 43))
        clear bl4 h4 hgl
        obtain ⟨bs, hbs⟩ : ∃ bs, bs = w4.heap.size := ⟨_, rfl⟩
        rw [← hbs] at RS4
        have HNE := Lib.hid (show bx ≠ bs from by omega)
        have HOXS : Hid (∀ j, vx.ownBlock = some j → j ≠ bs) := Lib.hid fun j hj => by have := HOX.out j hj; omega
        have HOSX : Hid (∀ j, (Value.slice (some ⟨g4, 0, none⟩) lc.length c4).ownBlock = some j → j ≠ bx) := Lib.hid fun j hj => by cases hj; exact hg4b.out
        have HBS := Lib.hid hbs
        clear hbx4
        go_wp2_with fail
        rw [← HBS.out]
        clear hbs
        go_loopw [11] (fun t wr => ∃ (i : Nat) (l : List Int) (lk : Bool) (vx vs : Value), i ≤ k ∧ t = .int .i64 i ∧ Hid (Rd 51 w.heap.size wr bx vx l lk) ∧ Hid (Rd 43 w.heap.size wr bs vs l lk) ∧ Hid (∀ j, vx.ownBlock = some j → j ≠ bs) ∧ Hid (∀ j, vs.ownBlock = some j → j ≠ bx) ∧ Hid (Below w.heap.size w wr)) (fun t _ => 40 - (intOf t).toNat)
        case atStart => exact ⟨0, lc, false, _, _, Nat.zero_le _, rfl, RX5, RS4, HOXS, HOSX, HB5⟩
        case round =>
          clear HOXS HOSX RX5 RS4 HB5
          obtain ⟨i, l, lk, vx, vs, hik, rfl, HX, HS, HXS, HSX, HB⟩ := hrel
          by_cases hlt : i < k
          · obtain ⟨⟨V, b, o, rfl, hb, c0, c1, c2⟩, hn1, hn2⟩ := hst.out i (by omega)
            have c0' := (HB.out.cell (p := ⟨b, o + i * 3, none⟩) hb).trans c0
            have c1' := (HB.out.cell (p := ⟨b, o + i * 3 + 1, none⟩) hb).trans c1
            have hil : i < len := by omega
            have hi40 : i < 40 := by omega
            clear c0 c1 c2 hn1 hn2 hlt
            have hc6 : W i % 6 = 0 ∨ W i % 6 = 1 ∨ W i % 6 = 2 ∨ W i % 6 = 3 ∨ W i % 6 = 4 ∨ W i % 6 = 5 := by omega
            rcases hc6 with hr | hr | hr | hr | hr | hr
            all_goals
              have HRR := Lib.hid hr
              clear hr
              go_wp2_with fail
              refine (pick_to _ _ 6 _ (by omega) (by omega) HRR.out).mono ?_
              rintro e _ ⟨rfl, rfl⟩
              go_wp2_with fail
            · obtain ⟨⟨y, l2, lk2⟩, hres⟩ : ∃ r, r = fixRes 1 l lk := ⟨_, rfl⟩
              refine (ru8_all w.heap.size _ _ _ _ _ HX.out).mono ?_
              rintro e w6 hp
              rw [← hres] at hp
              obtain ⟨rfl, v6, r6, o6, s6⟩ := hp
              have RX6 := Lib.hid r6
              have RS6 := Lib.hid (HS.out.kept o6 HNE.out.symm HSX.out)
              have HB6 := Lib.hid (HB.out.trans (HX.out.below o6))
              have HXS6 := Lib.hid fun j hj => HXS.out j (s6 j hj)
              clear r6 o6 s6
              go_wp2_with fail
              refine (su8_all w.heap.size _ _ _ _ _ RS6.out).mono ?_
              rintro e w7 hp
              rw [← hres] at hp
              obtain ⟨rfl, v7, r7, o7, s7⟩ := hp
              have RX7 := Lib.hid (RX6.out.kept o7 HNE.out HXS6.out)
              have RS7 := Lib.hid r7
              have HB7 := Lib.hid (HB6.out.trans (RS6.out.below o7))
              have HSX7 := Lib.hid fun j hj => HSX.out j (s7 j hj)
              clear o7 s7 hres
              go_wp2_with fail
              have hcs1 := r7.c1
              have hcs0 := r7.c0
              rcases r7.seen with ⟨rfl, hl2⟩ | ⟨g7, o7, cap7, rfl, hcp7, hu7⟩
              case' inl =>
                obtain rfl : l2 = [] := hl2
              case' inr => clear hu7
              all_goals
                clear r7
                go_quiet ((first | (go_at_call 15; exact Calls.quiet_of_same ((lack_any w.heap.size _ _ _ _ _ (RX7.out.drewN _)).mono fun _ _ h => ⟨h.1, h.2.symm⟩)) | (go_at_call 16; exact Calls.quiet_of_same ((left_any w.heap.size _ _ _ _ _ (RX7.out.drewN _)).mono fun _ _ h => ⟨h.1, h.2.symm⟩))))
                go_wp2_with fail
                exact ⟨⟨i + 1, _, lk2, v6, _, by omega, by go_num, Lib.hid (RX7.out.drewN _), Lib.hid (RS7.out.drewN _), HXS6, HSX7, Lib.hid (HB7.out.trans ⟨rfl, rfl, rfl, Nat.le_refl _, fun _ _ => rfl⟩)⟩, by simp [intOf]; omega⟩
            · obtain ⟨⟨y, l2, lk2⟩, hres⟩ : ∃ r, r = fixRes 4 l lk := ⟨_, rfl⟩
              refine (ru32_all w.heap.size _ _ _ _ _ HX.out).mono ?_
              rintro e w6 hp
              rw [← hres] at hp
              obtain ⟨rfl, v6, r6, o6, s6⟩ := hp
              have RX6 := Lib.hid r6
              have RS6 := Lib.hid (HS.out.kept o6 HNE.out.symm HSX.out)
              have HB6 := Lib.hid (HB.out.trans (HX.out.below o6))
              have HXS6 := Lib.hid fun j hj => HXS.out j (s6 j hj)
              clear r6 o6 s6
              go_wp2_with fail
              refine (su32_all w.heap.size _ _ _ _ _ RS6.out).mono ?_
              rintro e w7 hp
              rw [← hres] at hp
              obtain ⟨rfl, v7, r7, o7, s7⟩ := hp
              have RX7 := Lib.hid (RX6.out.kept o7 HNE.out HXS6.out)
              have RS7 := Lib.hid r7
              have HB7 := Lib.hid (HB6.out.trans (RS6.out.below o7))
              have HSX7 := Lib.hid fun j hj => HSX.out j (s7 j hj)
              clear o7 s7 hres
              go_wp2_with fail
              have hcs1 := r7.c1
              have hcs0 := r7.c0
              rcases r7.seen with ⟨rfl, hl2⟩ | ⟨g7, o7, cap7, rfl, hcp7, hu7⟩
              case' inl =>
                obtain rfl : l2 = [] := hl2
              case' inr => clear hu7
              all_goals
                clear r7
                go_quiet ((first | (go_at_call 15; exact Calls.quiet_of_same ((lack_any w.heap.size _ _ _ _ _ (RX7.out.drewN _)).mono fun _ _ h => ⟨h.1, h.2.symm⟩)) | (go_at_call 16; exact Calls.quiet_of_same ((left_any w.heap.size _ _ _ _ _ (RX7.out.drewN _)).mono fun _ _ h => ⟨h.1, h.2.symm⟩))))
                go_wp2_with fail
                exact ⟨⟨i + 1, _, lk2, v6, _, by omega, by go_num, Lib.hid (RX7.out.drewN _), Lib.hid (RS7.out.drewN _), HXS6, HSX7, Lib.hid (HB7.out.trans ⟨rfl, rfl, rfl, Nat.le_refl _, fun _ _ => rfl⟩)⟩, by simp [intOf]; omega⟩
            · obtain ⟨⟨y, l2, lk2⟩, hres⟩ : ∃ r, r = fixRes 8 l lk := ⟨_, rfl⟩
              refine (ru64_all w.heap.size _ _ _ _ _ HX.out).mono ?_
              rintro e w6 hp
              rw [← hres] at hp
              obtain ⟨rfl, v6, r6, o6, s6⟩ := hp
              have RX6 := Lib.hid r6
              have RS6 := Lib.hid (HS.out.kept o6 HNE.out.symm HSX.out)
              have HB6 := Lib.hid (HB.out.trans (HX.out.below o6))
              have HXS6 := Lib.hid fun j hj => HXS.out j (s6 j hj)
              clear r6 o6 s6
              go_wp2_with fail
              refine (su64_all w.heap.size _ _ _ _ _ RS6.out).mono ?_
              rintro e w7 hp
              rw [← hres] at hp
              obtain ⟨rfl, v7, r7, o7, s7⟩ := hp
              have RX7 := Lib.hid (RX6.out.kept o7 HNE.out HXS6.out)
              have RS7 := Lib.hid r7
              have HB7 := Lib.hid (HB6.out.trans (RS6.out.below o7))
              have HSX7 := Lib.hid fun j hj => HSX.out j (s7 j hj)
              clear o7 s7 hres
              go_wp2_with fail
              have hcs1 := r7.c1
              have hcs0 := r7.c0
              rcases r7.seen with ⟨rfl, hl2⟩ | ⟨g7, o7, cap7, rfl, hcp7, hu7⟩
              case' inl =>
                obtain rfl : l2 = [] := hl2
              case' inr => clear hu7
              all_goals
                clear r7
                go_quiet ((first | (go_at_call 15; exact Calls.quiet_of_same ((lack_any w.heap.size _ _ _ _ _ (RX7.out.drewN _)).mono fun _ _ h => ⟨h.1, h.2.symm⟩)) | (go_at_call 16; exact Calls.quiet_of_same ((left_any w.heap.size _ _ _ _ _ (RX7.out.drewN _)).mono fun _ _ h => ⟨h.1, h.2.symm⟩))))
                go_wp2_with fail
                exact ⟨⟨i + 1, _, lk2, v6, _, by omega, by go_num, Lib.hid (RX7.out.drewN _), Lib.hid (RS7.out.drewN _), HXS6, HSX7, Lib.hid (HB7.out.trans ⟨rfl, rfl, rfl, Nat.le_refl _, fun _ _ => rfl⟩)⟩, by simp [intOf]; omega⟩
            · obtain ⟨⟨y, l2, lk2⟩, hres⟩ : ∃ r, r = varRes l lk := ⟨_, rfl⟩
              refine (rvar_all w.heap.size _ _ _ _ _ HX.out).mono ?_
              rintro e w6 hp
              rw [← hres] at hp
              obtain ⟨rfl, v6, r6, o6, s6⟩ := hp
              have RX6 := Lib.hid r6
              have RS6 := Lib.hid (HS.out.kept o6 HNE.out.symm HSX.out)
              have HB6 := Lib.hid (HB.out.trans (HX.out.below o6))
              have HXS6 := Lib.hid fun j hj => HXS.out j (s6 j hj)
              clear r6 o6 s6
              go_wp2_with fail
              refine (svar_all w.heap.size _ _ _ _ _ RS6.out).mono ?_
              rintro e w7 hp
              rw [← hres] at hp
              obtain ⟨rfl, v7, r7, o7, s7⟩ := hp
              have RX7 := Lib.hid (RX6.out.kept o7 HNE.out HXS6.out)
              have RS7 := Lib.hid r7
              have HB7 := Lib.hid (HB6.out.trans (RS6.out.below o7))
              have HSX7 := Lib.hid fun j hj => HSX.out j (s7 j hj)
              clear o7 s7 hres
              go_wp2_with fail
              have hcs1 := r7.c1
              have hcs0 := r7.c0
              rcases r7.seen with ⟨rfl, hl2⟩ | ⟨g7, o7, cap7, rfl, hcp7, hu7⟩
              case' inl =>
                obtain rfl : l2 = [] := hl2
              case' inr => clear hu7
              all_goals
                clear r7
                go_quiet ((first | (go_at_call 15; exact Calls.quiet_of_same ((lack_any w.heap.size _ _ _ _ _ (RX7.out.drewN _)).mono fun _ _ h => ⟨h.1, h.2.symm⟩)) | (go_at_call 16; exact Calls.quiet_of_same ((left_any w.heap.size _ _ _ _ _ (RX7.out.drewN _)).mono fun _ _ h => ⟨h.1, h.2.symm⟩))))
                go_wp2_with fail
                exact ⟨⟨i + 1, _, lk2, v6, _, by omega, by go_num, Lib.hid (RX7.out.drewN _), Lib.hid (RS7.out.drewN _), HXS6, HSX7, Lib.hid (HB7.out.trans ⟨rfl, rfl, rfl, Nat.le_refl _, fun _ _ => rfl⟩)⟩, by simp [intOf]; omega⟩
            · obtain ⟨⟨y, l2, lk2⟩, hres⟩ : ∃ r, r = varRes l lk := ⟨_, rfl⟩
              refine (rvar_all w.heap.size _ _ _ _ _ HX.out).mono ?_
              rintro e w6 hp
              rw [← hres] at hp
              obtain ⟨rfl, v6, r6, o6, s6⟩ := hp
              have RX6 := Lib.hid r6
              have RS6 := Lib.hid (HS.out.kept o6 HNE.out.symm HSX.out)
              have HB6 := Lib.hid (HB.out.trans (HX.out.below o6))
              have HXS6 := Lib.hid fun j hj => HXS.out j (s6 j hj)
              clear r6 o6 s6
              go_wp2_with fail
              refine (svar_all w.heap.size _ _ _ _ _ RS6.out).mono ?_
              rintro e w7 hp
              rw [← hres] at hp
              obtain ⟨rfl, v7, r7, o7, s7⟩ := hp
              have RX7 := Lib.hid (RX6.out.kept o7 HNE.out HXS6.out)
              have RS7 := Lib.hid r7
              have HB7 := Lib.hid (HB6.out.trans (RS6.out.below o7))
              have HSX7 := Lib.hid fun j hj => HSX.out j (s7 j hj)
              clear o7 s7 hres
              go_wp2_with fail
              have hcs1 := r7.c1
              have hcs0 := r7.c0
              rcases r7.seen with ⟨rfl, hl2⟩ | ⟨g7, o7, cap7, rfl, hcp7, hu7⟩
              case' inl =>
                obtain rfl : l2 = [] := hl2
              case' inr => clear hu7
              all_goals
                clear r7
                go_quiet ((first | (go_at_call 15; exact Calls.quiet_of_same ((lack_any w.heap.size _ _ _ _ _ (RX7.out.drewN _)).mono fun _ _ h => ⟨h.1, h.2.symm⟩)) | (go_at_call 16; exact Calls.quiet_of_same ((left_any w.heap.size _ _ _ _ _ (RX7.out.drewN _)).mono fun _ _ h => ⟨h.1, h.2.symm⟩))))
                go_wp2_with fail
                exact ⟨⟨i + 1, _, lk2, v6, _, by omega, by go_num, Lib.hid (RX7.out.drewN _), Lib.hid (RS7.out.drewN _), HXS6, HSX7, Lib.hid (HB7.out.trans ⟨rfl, rfl, rfl, Nat.le_refl _, fun _ _ => rfl⟩)⟩, by simp [intOf]; omega⟩
            · refine (pick_any _ _ 9 (by omega) (by omega)).mono ?_
              rintro e _ ⟨rfl, rfl⟩
              go_wp2_with fail
              obtain ⟨⟨y, l2, lk2⟩, hres⟩ : ∃ r, r = rawRes (N i % 9 - 1) l lk := ⟨_, rfl⟩
              have HRES := Lib.hid hres
              have hbsl := HS.out.lt
              clear hres
              go_region_with ((first | (go_at_call 34; refine (rraw_all w.heap.size _ _ _ _ _ _ HX.out.drew).mono ?_; rintro e w6 hp; rw [← HRES.out] at hp; obtain ⟨u6, rfl, hs6, hu6, v6, r6, o6, s6⟩ := hp; have hcv6 := conv_any hs6; have RX6 := Lib.hid r6; have RS6 := Lib.hid (HS.out.drew.kept o6 HNE.out.symm HSX.out); have HB6 := Lib.hid (HB.out.drew.trans (HX.out.drew.below o6)); have HXS6 := Lib.hid fun j hj => HXS.out j (s6 j hj); have HS6 := Lib.hid hs6; have HU6 := Lib.hid hu6; clear r6 o6 s6 hs6 hu6) | (go_at_call 35; refine (sraw_all w.heap.size _ _ _ _ _ _ RS6.out).mono ?_; rintro e w7 hp; rw [← HRES.out] at hp; obtain ⟨u7, rfl, hs7, v7, r7, o7, s7⟩ := hp; have hcv7 := conv_any hs7; have hcv67 := conv_any (HS6.out.kept fun j hj => o7.block j (HU6.out j hj).2 (by have := (HU6.out j hj).1; simp at this; omega)); have RX7 := Lib.hid (RX6.out.kept o7 HNE.out HXS6.out); have RS7 := Lib.hid r7; have HB7 := Lib.hid (HB6.out.trans (RS6.out.below o7)); have HSX7 := Lib.hid fun j hj => HSX.out j (s7 j hj); clear o7 s7 hs7)))
              all_goals
                clear hcv6 hcv7 hcv67
                go_wp2_with fail
                have hcs1 := r7.c1
                have hcs0 := r7.c0
                rcases r7.seen with ⟨rfl, hl2⟩ | ⟨g7, o7, cap7, rfl, hcp7, hu7⟩
                case' inl =>
                  obtain rfl : l2 = [] := hl2
                case' inr => clear hu7
                all_goals
                  clear r7
                  go_quiet ((first | (go_at_call 15; exact Calls.quiet_of_same ((lack_any w.heap.size _ _ _ _ _ (RX7.out.drewN _)).mono fun _ _ h => ⟨h.1, h.2.symm⟩)) | (go_at_call 16; exact Calls.quiet_of_same ((left_any w.heap.size _ _ _ _ _ (RX7.out.drewN _)).mono fun _ _ h => ⟨h.1, h.2.symm⟩))))
                  go_wp2_with fail
                  exact ⟨⟨i + 1, _, lk2, v6, _, by omega, by go_num, Lib.hid (RX7.out.drewN _), Lib.hid (RS7.out.drewN _), HXS6, HSX7, Lib.hid (HB7.out.trans ⟨rfl, rfl, rfl, Nat.le_refl _, fun _ _ => rfl⟩)⟩, by simp [intOf]; omega⟩
          · by_cases hil : i < len
            case' pos => have hi40 : 40 ≤ i := by omega
            case' neg => have hli : len ≤ i := by omega
            all_goals
              clear hlt
              go_wp2
              go_ret
              exact ⟨rfl, HB.out⟩
  case' false =>
    have HLC : Hid (l0.length = n0) := Lib.hid HN0.out.symm
    obtain ⟨lc, hlc⟩ : ∃ lc, lc = l0 := ⟨_, rfl⟩
    rw [← hlc] at HLC H1 HK0
    clear hlc
    rename Hid (Okb lc) => HKC
    rename Hid (World.ownsRow _ _ _ _ _ _ _) => HC
    rename Hid (Below _ _ _) => HB
    go_wp2_with fail
    refine (newreader_any _ w.heap.size HB.out.size _ lc (by rw [HLC.out]; exact hl0) HKC.out (own_seen HC.out HLC.out)).mono ?_
    rintro e w2 ⟨bx, vx, rfl, r2, bl2, bb2, hv2⟩
    have RX2 := Lib.hid r2
    have HC2 := Lib.hid (HC.out.kept (row := none) ⟨bl2.os, bl2.tape, bl2.output, bl2.size, fun k hk _ => bl2.block k hk⟩ (.inr (by simp [Value.ownBlock])))
    have HB2 := Lib.hid (HB.out.trans (bl2.mono HB.out.size))
    clear r2 bl2 bb2 hv2
    go_wp2_with fail
    refine (known_any _).mono ?_
    rintro e w3 ⟨rfl, bl3⟩
    have RX3 := Lib.hid (RX2.out.kb bl3)
    have HC3 := Lib.hid (HC2.out.kept (row := none) ⟨bl3.os, bl3.tape, bl3.output, bl3.size, fun k hk _ => bl3.block k hk⟩ (.inr (by simp [Value.ownBlock])))
    have HB3 := Lib.hid (HB2.out.trans (bl3.mono HB2.out.size))
    clear bl3
    go_wp2_with fail
    refine (few_any _ _ lc _ (by rw [HLC.out]) (by rw [HLC.out]; exact hl0) (own_seen HC3.out HLC.out)).mono ?_
    rintro e w4 ⟨g4, c4, rfl, h4, bl4⟩
    have RX4 := Lib.hid (RX3.out.kb bl4)
    have HB4 := Lib.hid (HB3.out.trans (bl4.mono HB3.out.size))
    have hbx4 := RX4.out.lt
    have HOX := Lib.hid fun j hj => (RX4.out.own j hj).2.2
    have hgl := h4.lt g4 rfl
    have hg4b := Lib.hid (show g4 ≠ bx from by have := RX3.out.lt; omega)
    have RS4 := Lib.hid (rd_new (B := w.heap.size) h4 (Nat.le_trans HB3.out.size hgl.1) HB4.out.size HKC.out (by rw [HLC.out]; exact hl0))
    have RX5 := Lib.hid (RX4.out.kb ((Below.refl _ w4).alloc (Nat.le_refl _) (.cells #[.slice (some ⟨g4, 0, none⟩) lc.length c4, .bool false] 43)))
    have HB5 := Lib.hid (HB4.out.alloc HB4.out.size (.cells #[.slice (some ⟨g4, 0, none⟩) lc.length c4, .bool false] 43))
    clear bl4 h4 hgl
    obtain ⟨bs, hbs⟩ : ∃ bs, bs = w4.heap.size := ⟨_, rfl⟩
    rw [← hbs] at RS4
    have HNE := Lib.hid (show bx ≠ bs from by omega)
    have HOXS : Hid (∀ j, vx.ownBlock = some j → j ≠ bs) := Lib.hid fun j hj => by have := HOX.out j hj; omega
    have HOSX : Hid (∀ j, (Value.slice (some ⟨g4, 0, none⟩) lc.length c4).ownBlock = some j → j ≠ bx) := Lib.hid fun j hj => by cases hj; exact hg4b.out
    have HBS := Lib.hid hbs
    clear hbx4
    go_wp2_with fail
    rw [← HBS.out]
    clear hbs
    go_loopw [11] (fun t wr => ∃ (i : Nat) (l : List Int) (lk : Bool) (vx vs : Value), i ≤ k ∧ t = .int .i64 i ∧ Hid (Rd 51 w.heap.size wr bx vx l lk) ∧ Hid (Rd 43 w.heap.size wr bs vs l lk) ∧ Hid (∀ j, vx.ownBlock = some j → j ≠ bs) ∧ Hid (∀ j, vs.ownBlock = some j → j ≠ bx) ∧ Hid (Below w.heap.size w wr)) (fun t _ => 40 - (intOf t).toNat)
    case atStart => exact ⟨0, lc, false, _, _, Nat.zero_le _, rfl, RX5, RS4, HOXS, HOSX, HB5⟩
    case round =>
      clear HOXS HOSX RX5 RS4 HB5
      obtain ⟨i, l, lk, vx, vs, hik, rfl, HX, HS, HXS, HSX, HB⟩ := hrel
      by_cases hlt : i < k
      · obtain ⟨⟨V, b, o, rfl, hb, c0, c1, c2⟩, hn1, hn2⟩ := hst.out i (by omega)
        have c0' := (HB.out.cell (p := ⟨b, o + i * 3, none⟩) hb).trans c0
        have c1' := (HB.out.cell (p := ⟨b, o + i * 3 + 1, none⟩) hb).trans c1
        have hil : i < len := by omega
        have hi40 : i < 40 := by omega
        clear c0 c1 c2 hn1 hn2 hlt
        have hc6 : W i % 6 = 0 ∨ W i % 6 = 1 ∨ W i % 6 = 2 ∨ W i % 6 = 3 ∨ W i % 6 = 4 ∨ W i % 6 = 5 := by omega
        rcases hc6 with hr | hr | hr | hr | hr | hr
        all_goals
          have HRR := Lib.hid hr
          clear hr
          go_wp2_with fail
          refine (pick_to _ _ 6 _ (by omega) (by omega) HRR.out).mono ?_
          rintro e _ ⟨rfl, rfl⟩
          go_wp2_with fail
        · obtain ⟨⟨y, l2, lk2⟩, hres⟩ : ∃ r, r = fixRes 1 l lk := ⟨_, rfl⟩
          refine (ru8_all w.heap.size _ _ _ _ _ HX.out).mono ?_
          rintro e w6 hp
          rw [← hres] at hp
          obtain ⟨rfl, v6, r6, o6, s6⟩ := hp
          have RX6 := Lib.hid r6
          have RS6 := Lib.hid (HS.out.kept o6 HNE.out.symm HSX.out)
          have HB6 := Lib.hid (HB.out.trans (HX.out.below o6))
          have HXS6 := Lib.hid fun j hj => HXS.out j (s6 j hj)
          clear r6 o6 s6
          go_wp2_with fail
          refine (su8_all w.heap.size _ _ _ _ _ RS6.out).mono ?_
          rintro e w7 hp
          rw [← hres] at hp
          obtain ⟨rfl, v7, r7, o7, s7⟩ := hp
          have RX7 := Lib.hid (RX6.out.kept o7 HNE.out HXS6.out)
          have RS7 := Lib.hid r7
          have HB7 := Lib.hid (HB6.out.trans (RS6.out.below o7))
          have HSX7 := Lib.hid fun j hj => HSX.out j (s7 j hj)
          clear o7 s7 hres
          go_wp2_with fail
          have hcs1 := r7.c1
          have hcs0 := r7.c0
          rcases r7.seen with ⟨rfl, hl2⟩ | ⟨g7, o7, cap7, rfl, hcp7, hu7⟩
          case' inl =>
            obtain rfl : l2 = [] := hl2
          case' inr => clear hu7
          all_goals
            clear r7
            go_quiet ((first | (go_at_call 15; exact Calls.quiet_of_same ((lack_any w.heap.size _ _ _ _ _ (RX7.out.drewN _)).mono fun _ _ h => ⟨h.1, h.2.symm⟩)) | (go_at_call 16; exact Calls.quiet_of_same ((left_any w.heap.size _ _ _ _ _ (RX7.out.drewN _)).mono fun _ _ h => ⟨h.1, h.2.symm⟩))))
            go_wp2_with fail
            exact ⟨⟨i + 1, _, lk2, v6, _, by omega, by go_num, Lib.hid (RX7.out.drewN _), Lib.hid (RS7.out.drewN _), HXS6, HSX7, Lib.hid (HB7.out.trans ⟨rfl, rfl, rfl, Nat.le_refl _, fun _ _ => rfl⟩)⟩, by simp [intOf]; omega⟩
        · obtain ⟨⟨y, l2, lk2⟩, hres⟩ : ∃ r, r = fixRes 4 l lk := ⟨_, rfl⟩
          refine (ru32_all w.heap.size _ _ _ _ _ HX.out).mono ?_
          rintro e w6 hp
          rw [← hres] at hp
          obtain ⟨rfl, v6, r6, o6, s6⟩ := hp
          have RX6 := Lib.hid r6
          have RS6 := Lib.hid (HS.out.kept o6 HNE.out.symm HSX.out)
          have HB6 := Lib.hid (HB.out.trans (HX.out.below o6))
          have HXS6 := Lib.hid fun j hj => HXS.out j (s6 j hj)
          clear r6 o6 s6
          go_wp2_with fail
          refine (su32_all w.heap.size _ _ _ _ _ RS6.out).mono ?_
          rintro e w7 hp
          rw [← hres] at hp
          obtain ⟨rfl, v7, r7, o7, s7⟩ := hp
          have RX7 := Lib.hid (RX6.out.kept o7 HNE.out HXS6.out)
          have RS7 := Lib.hid r7
          have HB7 := Lib.hid (HB6.out.trans (RS6.out.below o7))
          have HSX7 := Lib.hid fun j hj => HSX.out j (s7 j hj)
          clear o7 s7 hres
          go_wp2_with fail
          have hcs1 := r7.c1
          have hcs0 := r7.c0
          rcases r7.seen with ⟨rfl, hl2⟩ | ⟨g7, o7, cap7, rfl, hcp7, hu7⟩
          case' inl =>
            obtain rfl : l2 = [] := hl2
          case' inr => clear hu7
          all_goals
            clear r7
            go_quiet ((first | (go_at_call 15; exact Calls.quiet_of_same ((lack_any w.heap.size _ _ _ _ _ (RX7.out.drewN _)).mono fun _ _ h => ⟨h.1, h.2.symm⟩)) | (go_at_call 16; exact Calls.quiet_of_same ((left_any w.heap.size _ _ _ _ _ (RX7.out.drewN _)).mono fun _ _ h => ⟨h.1, h.2.symm⟩))))
            go_wp2_with fail
            exact ⟨⟨i + 1, _, lk2, v6, _, by omega, by go_num, Lib.hid (RX7.out.drewN _), Lib.hid (RS7.out.drewN _), HXS6, HSX7, Lib.hid (HB7.out.trans ⟨rfl, rfl, rfl, Nat.le_refl _, fun _ _ => rfl⟩)⟩, by simp [intOf]; omega⟩
        · obtain ⟨⟨y, l2, lk2⟩, hres⟩ : ∃ r, r = fixRes 8 l lk := ⟨_, rfl⟩
          refine (ru64_all w.heap.size _ _ _ _ _ HX.out).mono ?_
          rintro e w6 hp
          rw [← hres] at hp
          obtain ⟨rfl, v6, r6, o6, s6⟩ := hp
          have RX6 := Lib.hid r6
          have RS6 := Lib.hid (HS.out.kept o6 HNE.out.symm HSX.out)
          have HB6 := Lib.hid (HB.out.trans (HX.out.below o6))
          have HXS6 := Lib.hid fun j hj => HXS.out j (s6 j hj)
          clear r6 o6 s6
          go_wp2_with fail
          refine (su64_all w.heap.size _ _ _ _ _ RS6.out).mono ?_
          rintro e w7 hp
          rw [← hres] at hp
          obtain ⟨rfl, v7, r7, o7, s7⟩ := hp
          have RX7 := Lib.hid (RX6.out.kept o7 HNE.out HXS6.out)
          have RS7 := Lib.hid r7
          have HB7 := Lib.hid (HB6.out.trans (RS6.out.below o7))
          have HSX7 := Lib.hid fun j hj => HSX.out j (s7 j hj)
          clear o7 s7 hres
          go_wp2_with fail
          have hcs1 := r7.c1
          have hcs0 := r7.c0
          rcases r7.seen with ⟨rfl, hl2⟩ | ⟨g7, o7, cap7, rfl, hcp7, hu7⟩
          case' inl =>
            obtain rfl : l2 = [] := hl2
          case' inr => clear hu7
          all_goals
            clear r7
            go_quiet ((first | (go_at_call 15; exact Calls.quiet_of_same ((lack_any w.heap.size _ _ _ _ _ (RX7.out.drewN _)).mono fun _ _ h => ⟨h.1, h.2.symm⟩)) | (go_at_call 16; exact Calls.quiet_of_same ((left_any w.heap.size _ _ _ _ _ (RX7.out.drewN _)).mono fun _ _ h => ⟨h.1, h.2.symm⟩))))
            go_wp2_with fail
            exact ⟨⟨i + 1, _, lk2, v6, _, by omega, by go_num, Lib.hid (RX7.out.drewN _), Lib.hid (RS7.out.drewN _), HXS6, HSX7, Lib.hid (HB7.out.trans ⟨rfl, rfl, rfl, Nat.le_refl _, fun _ _ => rfl⟩)⟩, by simp [intOf]; omega⟩
        · obtain ⟨⟨y, l2, lk2⟩, hres⟩ : ∃ r, r = varRes l lk := ⟨_, rfl⟩
          refine (rvar_all w.heap.size _ _ _ _ _ HX.out).mono ?_
          rintro e w6 hp
          rw [← hres] at hp
          obtain ⟨rfl, v6, r6, o6, s6⟩ := hp
          have RX6 := Lib.hid r6
          have RS6 := Lib.hid (HS.out.kept o6 HNE.out.symm HSX.out)
          have HB6 := Lib.hid (HB.out.trans (HX.out.below o6))
          have HXS6 := Lib.hid fun j hj => HXS.out j (s6 j hj)
          clear r6 o6 s6
          go_wp2_with fail
          refine (svar_all w.heap.size _ _ _ _ _ RS6.out).mono ?_
          rintro e w7 hp
          rw [← hres] at hp
          obtain ⟨rfl, v7, r7, o7, s7⟩ := hp
          have RX7 := Lib.hid (RX6.out.kept o7 HNE.out HXS6.out)
          have RS7 := Lib.hid r7
          have HB7 := Lib.hid (HB6.out.trans (RS6.out.below o7))
          have HSX7 := Lib.hid fun j hj => HSX.out j (s7 j hj)
          clear o7 s7 hres
          go_wp2_with fail
          have hcs1 := r7.c1
          have hcs0 := r7.c0
          rcases r7.seen with ⟨rfl, hl2⟩ | ⟨g7, o7, cap7, rfl, hcp7, hu7⟩
          case' inl =>
            obtain rfl : l2 = [] := hl2
          case' inr => clear hu7
          all_goals
            clear r7
            go_quiet ((first | (go_at_call 15; exact Calls.quiet_of_same ((lack_any w.heap.size _ _ _ _ _ (RX7.out.drewN _)).mono fun _ _ h => ⟨h.1, h.2.symm⟩)) | (go_at_call 16; exact Calls.quiet_of_same ((left_any w.heap.size _ _ _ _ _ (RX7.out.drewN _)).mono fun _ _ h => ⟨h.1, h.2.symm⟩))))
            go_wp2_with fail
            exact ⟨⟨i + 1, _, lk2, v6, _, by omega, by go_num, Lib.hid (RX7.out.drewN _), Lib.hid (RS7.out.drewN _), HXS6, HSX7, Lib.hid (HB7.out.trans ⟨rfl, rfl, rfl, Nat.le_refl _, fun _ _ => rfl⟩)⟩, by simp [intOf]; omega⟩
        · obtain ⟨⟨y, l2, lk2⟩, hres⟩ : ∃ r, r = varRes l lk := ⟨_, rfl⟩
          refine (rvar_all w.heap.size _ _ _ _ _ HX.out).mono ?_
          rintro e w6 hp
          rw [← hres] at hp
          obtain ⟨rfl, v6, r6, o6, s6⟩ := hp
          have RX6 := Lib.hid r6
          have RS6 := Lib.hid (HS.out.kept o6 HNE.out.symm HSX.out)
          have HB6 := Lib.hid (HB.out.trans (HX.out.below o6))
          have HXS6 := Lib.hid fun j hj => HXS.out j (s6 j hj)
          clear r6 o6 s6
          go_wp2_with fail
          refine (svar_all w.heap.size _ _ _ _ _ RS6.out).mono ?_
          rintro e w7 hp
          rw [← hres] at hp
          obtain ⟨rfl, v7, r7, o7, s7⟩ := hp
          have RX7 := Lib.hid (RX6.out.kept o7 HNE.out HXS6.out)
          have RS7 := Lib.hid r7
          have HB7 := Lib.hid (HB6.out.trans (RS6.out.below o7))
          have HSX7 := Lib.hid fun j hj => HSX.out j (s7 j hj)
          clear o7 s7 hres
          go_wp2_with fail
          have hcs1 := r7.c1
          have hcs0 := r7.c0
          rcases r7.seen with ⟨rfl, hl2⟩ | ⟨g7, o7, cap7, rfl, hcp7, hu7⟩
          case' inl =>
            obtain rfl : l2 = [] := hl2
          case' inr => clear hu7
          all_goals
            clear r7
            go_quiet ((first | (go_at_call 15; exact Calls.quiet_of_same ((lack_any w.heap.size _ _ _ _ _ (RX7.out.drewN _)).mono fun _ _ h => ⟨h.1, h.2.symm⟩)) | (go_at_call 16; exact Calls.quiet_of_same ((left_any w.heap.size _ _ _ _ _ (RX7.out.drewN _)).mono fun _ _ h => ⟨h.1, h.2.symm⟩))))
            go_wp2_with fail
            exact ⟨⟨i + 1, _, lk2, v6, _, by omega, by go_num, Lib.hid (RX7.out.drewN _), Lib.hid (RS7.out.drewN _), HXS6, HSX7, Lib.hid (HB7.out.trans ⟨rfl, rfl, rfl, Nat.le_refl _, fun _ _ => rfl⟩)⟩, by simp [intOf]; omega⟩
        · refine (pick_any _ _ 9 (by omega) (by omega)).mono ?_
          rintro e _ ⟨rfl, rfl⟩
          go_wp2_with fail
          obtain ⟨⟨y, l2, lk2⟩, hres⟩ : ∃ r, r = rawRes (N i % 9 - 1) l lk := ⟨_, rfl⟩
          have HRES := Lib.hid hres
          have hbsl := HS.out.lt
          clear hres
          go_region_with ((first | (go_at_call 34; refine (rraw_all w.heap.size _ _ _ _ _ _ HX.out.drew).mono ?_; rintro e w6 hp; rw [← HRES.out] at hp; obtain ⟨u6, rfl, hs6, hu6, v6, r6, o6, s6⟩ := hp; have hcv6 := conv_any hs6; have RX6 := Lib.hid r6; have RS6 := Lib.hid (HS.out.drew.kept o6 HNE.out.symm HSX.out); have HB6 := Lib.hid (HB.out.drew.trans (HX.out.drew.below o6)); have HXS6 := Lib.hid fun j hj => HXS.out j (s6 j hj); have HS6 := Lib.hid hs6; have HU6 := Lib.hid hu6; clear r6 o6 s6 hs6 hu6) | (go_at_call 35; refine (sraw_all w.heap.size _ _ _ _ _ _ RS6.out).mono ?_; rintro e w7 hp; rw [← HRES.out] at hp; obtain ⟨u7, rfl, hs7, v7, r7, o7, s7⟩ := hp; have hcv7 := conv_any hs7; have hcv67 := conv_any (HS6.out.kept fun j hj => o7.block j (HU6.out j hj).2 (by have := (HU6.out j hj).1; simp at this; omega)); have RX7 := Lib.hid (RX6.out.kept o7 HNE.out HXS6.out); have RS7 := Lib.hid r7; have HB7 := Lib.hid (HB6.out.trans (RS6.out.below o7)); have HSX7 := Lib.hid fun j hj => HSX.out j (s7 j hj); clear o7 s7 hs7)))
          all_goals
            clear hcv6 hcv7 hcv67
            go_wp2_with fail
            have hcs1 := r7.c1
            have hcs0 := r7.c0
            rcases r7.seen with ⟨rfl, hl2⟩ | ⟨g7, o7, cap7, rfl, hcp7, hu7⟩
            case' inl =>
              obtain rfl : l2 = [] := hl2
            case' inr => clear hu7
            all_goals
              clear r7
              go_quiet ((first | (go_at_call 15; exact Calls.quiet_of_same ((lack_any w.heap.size _ _ _ _ _ (RX7.out.drewN _)).mono fun _ _ h => ⟨h.1, h.2.symm⟩)) | (go_at_call 16; exact Calls.quiet_of_same ((left_any w.heap.size _ _ _ _ _ (RX7.out.drewN _)).mono fun _ _ h => ⟨h.1, h.2.symm⟩))))
              go_wp2_with fail
              exact ⟨⟨i + 1, _, lk2, v6, _, by omega, by go_num, Lib.hid (RX7.out.drewN _), Lib.hid (RS7.out.drewN _), HXS6, HSX7, Lib.hid (HB7.out.trans ⟨rfl, rfl, rfl, Nat.le_refl _, fun _ _ => rfl⟩)⟩, by simp [intOf]; omega⟩
      · by_cases hil : i < len
        case' pos => have hi40 : 40 ≤ i := by omega
        case' neg => have hli : len ≤ i := by omega
        all_goals
          clear hlt
          go_wp2
          go_ret
          exact ⟨rfl, HB.out⟩
end Go.Proofs.Ytbadkgmlefmmbaa
