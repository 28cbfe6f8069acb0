/- The reference's ParseHash. Condition: the text's length is one. -/
import Derived.Test.YtgnagpohogiodaaDoorHexR
import Derived.Test.YtgnagpohogiodaaDoorHexP
import Derived.Deep.RegionWith
import Derived.IntWalk
namespace Go.Proofs.YtgnagpohogiodaaDoor
open Go.RowKit

set_option maxRecDepth 20000 in
set_option maxHeartbeats 1000000 in
theorem rparse_bad (w : World) (s : List UInt8) (hmx : s.length ≤ 9223372036854775807) (h : s.length = 64 → pre s = false) : Calls Tryd.prog 37 #[.string ⟨s.toArray⟩] w fun e w' =>
    e = .returned (.tuple #[.agg hzer, .int .i64 2]) ∧ Below w.heap.size w w' := by
  have hs : (⟨s.toArray⟩ : ByteArray).size = s.length := rfl
  have HP := Lib.hid (fun w => rpre_any w ⟨s.toArray⟩ hmx)
  have bl := (Below.refl w.heap.size w).alloc (Nat.le_refl _) (.cells hzer 23)
  have HB := Lib.hid bl
  have HT := Lib.hid (there_row (t := 23) (h := hzer) ((Below.heap_alloc (w.alloc (.cells hzer 23)) (.cells hzer 23) _ (by simp)).trans (heap_alloc_last w (.cells hzer 23))))
  have HX : Hid (((w.alloc (.cells hzer 23)).alloc (.cells hzer 23)).rangeAt (w.heap.size + 1) 0 hzer.toList) := Lib.hid (by have := range_row (heap_alloc_last (w.alloc (.cells hzer 23)) (.cells hzer 23)); rwa [show (w.alloc (.cells hzer 23)).heap.size = w.heap.size + 1 from by simp] at this)
  clear bl
  by_cases h64 : s.length = 64
  case' pos =>
    rw [show pre (⟨s.toArray⟩ : ByteArray).data.toList = false from h h64] at HP
    clear h
    go_enter Tryd.func37, Tryd.ntmps37
    go_wp2_with (first
      | (go_at_call 39; refine (HP.out _).mono ?_; rintro e w' ⟨rfl, rfl⟩)
      | (refine load_to HX.out Tryd.underlying23 rfl (hinfo' hzer hzer_size) ?hx ?_; (case hx => rfl))
      | (refine store_to HT.out (hinfo hzer hzer_size) hzer_one ?hx ?hy ?_; (case hx => rfl); (case hy => rfl)))
  case' neg =>
    clear h HP hmx
    go_enter Tryd.func37, Tryd.ntmps37
    go_wp2_with (first
      | (refine load_to HX.out Tryd.underlying23 rfl (hinfo' hzer hzer_size) ?hx ?_; (case hx => rfl))
      | (refine store_to HT.out (hinfo hzer hzer_size) hzer_one ?hx ?hy ?_; (case hx => rfl); (case hy => rfl)))
  all_goals
    refine bodyPost_ret (v := .tuple #[.agg hzer, .int .i64 2]) (w := ((w.alloc (.cells hzer 23)).alloc (.cells hzer 23)).setCells w.heap.size 0 hzer.toList) ?_ rfl ⟨rfl, ?_⟩
    · have hl := loaded (P := Tryd.prog) (t := 23) (q := hzer) HT.out Tryd.underlying23 rfl (hinfo hzer rfl)
      generalize ((w.alloc (.cells hzer 23)).alloc (.cells hzer 23)).setCells w.heap.size 0 (hzer).toList = W3 at hl ⊢
      simp only [results, Tryd.results37]
      simp [hl, asAddr]
    · exact (((Only.of_below (S := fun k => w.heap.size ≤ k) HB.out).alloc _).setCells (b := w.heap.size) (Nat.le_refl _) _ 0).below (Nat.le_refl _) (fun _ h => h)

set_option maxRecDepth 20000 in
set_option maxHeartbeats 2000000 in
theorem rparse_good (w : World) (s : List UInt8) (h64 : s.length = 64) (h : pre s = true) : Calls Tryd.prog 37 #[.string ⟨s.toArray⟩] w fun e w' =>
    e = .returned (.tuple #[.agg (hv (unh s)), .int .i64 0]) ∧ Below w.heap.size w w' := by
  have hs : (⟨s.toArray⟩ : ByteArray).size = s.length := rfl
  have HD := Lib.hid (pre_digs h)
  have HP := Lib.hid (fun w => rpre_any w ⟨s.toArray⟩ (by show s.length ≤ _; omega))
  rw [show pre (⟨s.toArray⟩ : ByteArray).data.toList = true from h] at HP
  have bl := (Below.refl w.heap.size w).alloc (Nat.le_refl _) (.cells hzer 23)
  have HB := Lib.hid bl
  have HT := Lib.hid (there_row (heap_alloc_last w (.cells hzer 23)))
  clear bl h
  go_enter Tryd.func37, Tryd.ntmps37
  go_wp2_with (go_at_call 39; refine (HP.out _).mono ?_; rintro e w' ⟨rfl, rfl⟩)
  have H64 := Lib.hid h64
  go_loopw [5] (fun i wr => ∃ (k : Nat), k ≤ 32 ∧ i = .int .i64 k ∧ Hid (wr.heap[w.heap.size + 1]? = some (.cells (pd s k).toArray 23 (0, 0))) ∧ Hid (Only (fun b => w.heap.size + 1 ≤ b) (w.alloc (.cells hzer 23)) wr)) (fun i _ => 32 - (intOf i).toNat)
  case atStart =>
    refine ⟨0, by omega, rfl, Lib.hid ?_, Lib.hid ((Only.refl _ _).alloc _)⟩
    have := heap_alloc_last (w.alloc (.cells hzer 23)) (.cells hzer 23)
    rw [show (w.alloc (.cells hzer 23)).heap.size = w.heap.size + 1 from by simp] at this
    exact this
  case round =>
    obtain ⟨k, hk, rfl, HR, HO⟩ := hrel
    by_cases hlt : k < 32
    · have i1 := fun w => index_str s (2 * k) (by omega) (2 * (k : Int)) (by omega) w
      have i2 := fun w => index_str s (2 * k + 1) (by omega) (2 * (k : Int) + 1) (by omega) w
      have d0 := digs_at HD.out (show 2 * k < s.length by omega)
      have d1 := digs_at HD.out (show 2 * k + 1 < s.length by omega)
      have e0 := und_hi s[2 * k]
      have e1 := und_hi s[2 * k + 1]
      have r0 := u8_rng s[2 * k]
      have r1 := u8_rng s[2 * k + 1]
      have HST := Lib.hid (pd_step (s := s) (k := k) H64.out hlt _ _ rfl rfl d0 d1 e0 e1)
      rw [← udi_und] at d0 e0
      rw [← udi_und] at d1 e1
      rw [← udi_und, ← udi_und] at HST
      generalize (s[2 * k].toNat : Int) = a at *
      generalize (s[2 * k + 1].toNat : Int) = b at *
      have c1 := fun w => rdigit_any w a r0.1 r0.2
      have c2 := fun w => rdigit_any w b r1.1 r1.2
      generalize udi a = u at *
      generalize udi b = v at *
      have C1 := Lib.hid c1
      have C2 := Lib.hid c2
      clear c1 c2 r0 r1
      have m1 := IntWalk.i64_in (2 * (k : Int)) (by omega)
      have m2 := IntWalk.i64_in (2 * (k : Int) + 1) (by omega)
      have m3 := IntWalk.i64_in (16 * u) (by omega)
      have m4 := IntWalk.i64_in (16 * u + v) (by omega)
      have hor : 16 * u + v = u * 16 + v := by omega
      have HOR := Lib.hid hor
      clear hor
      have hk32 : (k : Int) < 32 := by omega
      have hpl : (pd s k).length = 32 := pd_length H64.out hk
      have hck : ∃ y, wr.cell? ⟨w.heap.size + 1, k, none⟩ = some y := ⟨(pd s k)[k], by rw [cell_of_row wr _ k _ _ _ HR.out]; simp [hpl, hlt]⟩
      obtain ⟨y, hck⟩ := hck
      have hfk : wr.frozen? ⟨w.heap.size + 1, k, none⟩ = false := by have := HR.out; simp [World.frozen?, this]
      clear hs h64 hpl
      go_wp2_with fail
      go_region_with (first
        | (go_at_call 42; ((with_reducible refine (C1.out _).mono ?_); rintro e w' ⟨rfl, rfl⟩))
        | (go_at_call 42; ((with_reducible refine (C2.out _).mono ?_); rintro e w' ⟨rfl, rfl⟩)))
      all_goals
        go_wp2_with fail
        refine ⟨⟨k + 1, by omega, by go_num, Lib.hid ?_, Lib.hid ?_⟩, by simp [intOf]; omega⟩
        · rw [← HST.out, ← HOR.out]; exact cells_set HR.out _
        · exact Only.setCell (p := ⟨w.heap.size + 1, k, none⟩) HO.out.drew (Nat.le_refl _) _
    · obtain rfl : k = 32 := by omega
      have hk32 : ¬ ((32 : Nat) : Int) < 32 := by omega
      have hn : (unh s).length = 32 := unh_length 32 s H64.out
      have e : (pd s 32).toArray = hv (unh s) := by
        unfold pd hv
        rw [List.take_of_length_le (by rw [H64.out]; exact Nat.le_refl _)]
        simp
      have hr := HR.out
      rw [e] at hr
      have HX := Lib.hid (range_row hr)
      have h0 : wr.heap[w.heap.size]? = some (.cells hzer 23 (0, 0)) := (HO.out.block _ (by simp) (by omega)).trans (heap_alloc_last w _)
      have HT2 : Hid (wr.there w.heap.size 0 (hv (unh s)).size) := Lib.hid (by rw [hv_size, hn]; exact there_row h0)
      have HN := Lib.hid hn
      clear hr e hn h0 hs h64
      go_wp2_with (refine load_to HX.out Tryd.underlying23 rfl (hinfo' _ (by rw [hv_size, HN.out])) ?hx ?_; (case hx => rfl); refine store_to HT2.out (hinfo _ (by rw [hv_size, HN.out])) (hv_one _) ?hx ?hy ?_; (case hx => rfl); (case hy => simp [Act.put, Act.eval]))
      refine bodyPost_ret (v := .tuple #[.agg (hv (unh s)), .int .i64 0]) (w := wr.setCells w.heap.size 0 (hv (unh s)).toList) ?_ rfl ⟨rfl, ?_⟩
      · have hl := loaded (P := Tryd.prog) (t := 23) (q := hv (unh s)) HT2.out Tryd.underlying23 rfl (hinfo _ (by rw [hv_size, HN.out]))
        generalize wr.setCells w.heap.size 0 (hv (unh s)).toList = W3 at hl ⊢
        simp only [results, Tryd.results37]
        simp [hl, asAddr]
      · exact (((Only.of_below (S := fun k => w.heap.size ≤ k) HB.out).trans HO.out (fun _ h => h) (fun _ _ h => by omega)).setCells (b := w.heap.size) (Nat.le_refl _) _ 0).below (Nat.le_refl _) (fun _ h => h)
end Go.Proofs.YtgnagpohogiodaaDoor
