/- Parse: the program's. No condition. -/
import Derived.Test.YtgnagpohogiodaaDoorHexD
import Derived.Test.YtgnagpohogiodaaDoorOctBits
import Derived.Deep.RegionWith
import Derived.IntWalk
namespace Go.Proofs.YtgnagpohogiodaaDoor
open Go.RowKit

theorem index_str (s : List UInt8) (j : Nat) (h : j < s.length) (i : Int) (hi : i = j) (w : World) : (Instr.index 9 (.string ⟨s.toArray⟩) (.int .i64 i)).run Tryd.prog w = .ok (.int .u8 (s[j].toNat : Int)) w := by
  subst hi
  rw [run_index_string _ _ _ _ _ Tryd.underlying9, dif_pos ⟨by omega, by show (j : Int) < (s.length : Nat); omega⟩]
  rfl

theorem u8_rng (b : UInt8) : 0 ≤ (b.toNat : Int) ∧ (b.toNat : Int) < 256 := by have := b.toNat_lt; omega
/-- A pair of digits as a byte. -/
theorem pair_val (u v : Int) (u0 : 0 ≤ u) (u1 : u ≤ 15) (v0 : 0 ≤ v) (v1 : v ≤ 15) : bits .or .i64 (u * 16) v = u * 16 + v := by
  have h := or_i64 (u * 16) v 4 (by decide) (by omega) v0 (by omega)
  rwa [show wrap64 (u * 16) = u * 16 from by unfold wrap64; omega, show wrap64 (u * 16 + v) = u * 16 + v from by unfold wrap64; omega] at h

/-- The bytes of the first k pairs, and zeros. -/
def pd (s : List UInt8) (k : Nat) : List Value := us (nmb (unh (s.take (2 * k)))) ++ List.replicate (32 - k) (.int .u8 0)
theorem unh_length : ∀ (k : Nat) (s : List UInt8), s.length = 2 * k → (unh s).length = k
  | 0, [], _ => rfl
  | k + 1, a :: b :: l, h => by rw [unh, List.length_cons, unh_length k l (by simp at h; omega)]
  | 0, _ :: _, h => by simp at h
  | k + 1, [], h => by simp at h
  | k + 1, [_], h => by simp at h; omega
theorem unh_app : ∀ (k : Nat) (s t : List UInt8), s.length = 2 * k → unh (s ++ t) = unh s ++ unh t
  | 0, [], _, _ => rfl
  | k + 1, a :: b :: l, t, h => by rw [List.cons_append, List.cons_append, unh, unh, unh_app k l t (by simp at h; omega)]; rfl
  | 0, _ :: _, _, h => by simp at h
  | k + 1, [], _, h => by simp at h
  | k + 1, [_], _, h => by simp at h; omega
theorem take_two {s : List UInt8} {k : Nat} (h : 2 * k + 1 < s.length) : s.take (2 * (k + 1)) = s.take (2 * k) ++ [s[2 * k], s[2 * k + 1]] := by
  rw [show 2 * (k + 1) = 2 * k + 1 + 1 from by omega, List.take_succ_eq_append_getElem h, List.take_succ_eq_append_getElem (show 2 * k < s.length by omega), List.append_assoc]
  rfl
theorem unh_step {s : List UInt8} {k : Nat} (h : 2 * k + 1 < s.length) : unh (s.take (2 * (k + 1))) = unh (s.take (2 * k)) ++ [UInt8.ofNat (16 * und s[2 * k] + und s[2 * k + 1]).toNat] := by
  rw [take_two h, unh_app k _ _ (by rw [List.length_take]; omega)]; rfl
theorem pd_length {s : List UInt8} {k : Nat} (hs : s.length = 64) (hk : k ≤ 32) : (pd s k).length = 32 := by
  unfold pd
  rw [List.length_append, List.length_replicate, us, List.length_map, nm_length, unh_length k _ (by rw [List.length_take]; omega)]
  omega
theorem pd_step {s : List UInt8} {k : Nat} (hs : s.length = 64) (hk : k < 32) (u v : Int) (hu : und s[2 * k] = u) (hv : und s[2 * k + 1] = v) (u0 : 0 ≤ u) (v0 : 0 ≤ v) (u1 : u ≤ 15) (v1 : v ≤ 15) :
    (pd s k).set k (.int .u8 (u * 16 + v)) = pd s (k + 1) := by
  have hl : (us (nmb (unh (s.take (2 * k))))).length = k := by rw [us, List.length_map, nm_length, unh_length k _ (by rw [List.length_take]; omega)]
  unfold pd
  rw [unh_step (by omega), hu, hv, List.set_append_right _ _ (by omega), hl, Nat.sub_self, show 32 - k = (32 - (k + 1)) + 1 from by omega, List.replicate_succ, List.set_cons_zero]
  have e : (((UInt8.ofNat (16 * u + v).toNat).toNat : Nat) : Int) = u * 16 + v := by rw [UInt8.toNat_ofNat']; omega
  have e2 : us (nmb (unh (s.take (2 * k)) ++ [UInt8.ofNat (16 * u + v).toNat])) = us (nmb (unh (s.take (2 * k)))) ++ [.int .u8 (u * 16 + v)] := by
    rw [← e]; simp [us, nmb]
  rw [e2, List.append_assoc]
  rfl
theorem digs_at {s : List UInt8} (h : digs s = true) {j : Nat} (hj : j < s.length) : 0 ≤ und s[j] := by
  unfold digs at h
  rw [List.all_eq_true] at h
  exact of_decide_eq_true (h _ (List.getElem_mem hj))
theorem pre_digs {s : List UInt8} (h : pre s = true) : digs s = true := by
  unfold pre at h
  simp only [Bool.and_eq_true] at h
  exact h.2

theorem hzer_size : hzer.size = 32 := rfl
theorem hzer_one : hzer.all (·.oneCell') = true := hv_one hz
set_option maxRecDepth 20000 in
set_option maxHeartbeats 1000000 in
theorem parse_bad (w : World) (s : List UInt8) (h : s.length = 64 → pre s = false) : Calls Tryd.prog 30 #[.string ⟨s.toArray⟩] w fun e w' =>
    e = .returned (.tuple #[.agg hzer, .iface 29 (.int .i64 2)]) ∧ Below w.heap.size w w' := by
  have hs : (⟨s.toArray⟩ : ByteArray).size = s.length := rfl
  have HP := Lib.hid (fun w => pre_any w ⟨s.toArray⟩)
  have bl := (Below.refl w.heap.size w).alloc (Nat.le_refl _) (.cells hzer 23)
  have HB := Lib.hid bl
  have HT := Lib.hid (there_row (heap_alloc_last w (.cells hzer 23)))
  clear bl
  by_cases h64 : s.length = 64
  case' pos =>
    rw [show pre (⟨s.toArray⟩ : ByteArray).data.toList = false from h h64] at HP
    clear h
    go_enter Tryd.func30, Tryd.ntmps30
    go_wp2_with (first
      | (go_at_call 38; refine (HP.out _).mono ?_; rintro e w' ⟨rfl, rfl⟩)
      | (refine build_to (vals := #[]) hbuilt ?hv ?_; (case hv => simp))
      | (refine store_to HT.out (hinfo hzer hzer_size) hzer_one ?hx ?hy ?_; (case hx => rfl); (case hy => rfl)))
  case' neg =>
    clear h HP
    go_enter Tryd.func30, Tryd.ntmps30
    go_wp2_with (first
      | (refine build_to (vals := #[]) hbuilt ?hv ?_; (case hv => simp))
      | (refine store_to HT.out (hinfo hzer hzer_size) hzer_one ?hx ?hy ?_; (case hx => rfl); (case hy => rfl)))
  all_goals
    refine bodyPost_ret (v := .tuple #[.agg hzer, .iface 29 (.int .i64 2)]) (w := (w.alloc (.cells hzer 23)).setCells w.heap.size 0 hzer.toList) ?_ rfl ⟨rfl, ?_⟩
    · have hl := loaded (P := Tryd.prog) (t := 23) (q := hzer) HT.out Tryd.underlying23 rfl (hinfo hzer rfl)
      generalize (w.alloc (.cells hzer 23)).setCells w.heap.size 0 (hzer).toList = W3 at hl ⊢
      simp only [results, Tryd.results30]
      simp [hl, asAddr]
    · exact ((Only.of_below (S := fun k => w.heap.size ≤ k) HB.out).setCells (b := w.heap.size) (Nat.le_refl _) _ 0).below (Nat.le_refl _) (fun _ h => h)

theorem cells_set {w : World} {b j : Nat} {row : List Value} {t : TypeId} (h : w.heap[b]? = some (.cells row.toArray t (0, 0))) (v : Value) : (w.setCell ⟨b, j, none⟩ v).heap[b]? = some (.cells (row.set j v).toArray t (0, 0)) := by
  unfold World.setCell
  simp only [Array.getElem?_modify, if_true, h, Option.map_some]
  simp

set_option maxRecDepth 20000 in
set_option maxHeartbeats 2000000 in
theorem parse_good (w : World) (s : List UInt8) (h64 : s.length = 64) (h : pre s = true) : Calls Tryd.prog 30 #[.string ⟨s.toArray⟩] w fun e w' =>
    e = .returned (.tuple #[.agg (hv (unh s)), .nilIface]) ∧ Below w.heap.size w w' := by
  have hs : (⟨s.toArray⟩ : ByteArray).size = s.length := rfl
  have HD := Lib.hid (pre_digs h)
  have HP := Lib.hid (fun w => pre_any w ⟨s.toArray⟩)
  rw [show pre (⟨s.toArray⟩ : ByteArray).data.toList = true from h] at HP
  have bl := (Below.refl w.heap.size w).alloc (Nat.le_refl _) (.cells hzer 23)
  have HB := Lib.hid bl
  have HT := Lib.hid (there_row (heap_alloc_last w (.cells hzer 23)))
  clear bl h
  go_enter Tryd.func30, Tryd.ntmps30
  go_wp2_with (go_at_call 38; refine (HP.out _).mono ?_; rintro e w' ⟨rfl, rfl⟩)
  have H64 := Lib.hid h64
  go_loopw [16] (fun i wr => ∃ (k : Nat), k ≤ 32 ∧ i = .int .i64 k ∧ Hid (wr.heap[w.heap.size + 1]? = some (.cells (pd s k).toArray 23 (0, 0))) ∧ Hid (Only (fun b => w.heap.size + 1 ≤ b) (w.alloc (.cells hzer 23)) wr)) (fun i _ => 32 - (intOf i).toNat)
  case atStart =>
    refine ⟨0, by omega, rfl, Lib.hid ?_, Lib.hid ((Only.refl _ _).alloc _)⟩
    have := heap_alloc_last (w.alloc (.cells hzer 23)) (.cells hzer 23)
    rw [show (w.alloc (.cells hzer 23)).heap.size = w.heap.size + 1 from by simp] at this
    exact this
  case round =>
    obtain ⟨k, hk, rfl, HR, HO⟩ := hrel
    by_cases hlt : k < 32
    · have i1 := fun w => index_str s (2 * k) (by omega) (2 * (k : Int)) (by omega) w
      have i2 := fun w => index_str s (2 * k + 1) (by omega) (2 * (k : Int) + 1) (by omega) w
      have d0 := digs_at HD.out (show 2 * k < s.length by omega)
      have d1 := digs_at HD.out (show 2 * k + 1 < s.length by omega)
      have e0 := und_hi s[2 * k]
      have e1 := und_hi s[2 * k + 1]
      have r0 := u8_rng s[2 * k]
      have r1 := u8_rng s[2 * k + 1]
      have HST := Lib.hid (pd_step (s := s) (k := k) H64.out hlt _ _ rfl rfl d0 d1 e0 e1)
      rw [← udi_und] at d0 e0
      rw [← udi_und] at d1 e1
      rw [← udi_und, ← udi_und] at HST
      generalize (s[2 * k].toNat : Int) = a at *
      generalize (s[2 * k + 1].toNat : Int) = b at *
      have c1 := fun w => undig_any w a r0.1 r0.2
      have c2 := fun w => undig_any w b r1.1 r1.2
      generalize udi a = u at *
      generalize udi b = v at *
      have C1 := Lib.hid c1
      have C2 := Lib.hid c2
      clear c1 c2 r0 r1
      have m1 := IntWalk.i64_in (2 * (k : Int)) (by omega)
      have m2 := IntWalk.i64_in (2 * (k : Int) + 1) (by omega)
      have hor := pair_val u v d0 e0 d1 e1
      have hk32 : (k : Int) < 32 := by omega
      have hpl : (pd s k).length = 32 := pd_length H64.out hk
      have hck : ∃ y, wr.cell? ⟨w.heap.size + 1, k, none⟩ = some y := ⟨(pd s k)[k], by rw [cell_of_row wr _ k _ _ _ HR.out]; simp [hpl, hlt]⟩
      obtain ⟨y, hck⟩ := hck
      have hfk : wr.frozen? ⟨w.heap.size + 1, k, none⟩ = false := by have := HR.out; simp [World.frozen?, this]
      clear hs h64 hpl
      go_wp2_with fail
      go_region_with (first
        | (go_at_call 35; ((with_reducible refine (C1.out _).mono ?_); rintro e w' ⟨rfl, rfl⟩))
        | (go_at_call 35; ((with_reducible refine (C2.out _).mono ?_); rintro e w' ⟨rfl, rfl⟩)))
      all_goals
        go_wp2_with fail
        refine ⟨⟨k + 1, by omega, by go_num, Lib.hid ?_, Lib.hid ?_⟩, by simp [intOf]; omega⟩
        · rw [← HST.out, ← hor]; exact cells_set HR.out _
        · exact Only.setCell (p := ⟨w.heap.size + 1, k, none⟩) HO.out.drew (Nat.le_refl _) _
    · obtain rfl : k = 32 := by omega
      have hk32 : ¬ ((32 : Nat) : Int) < 32 := by omega
      have hn : (unh s).length = 32 := unh_length 32 s H64.out
      have e : (pd s 32).toArray = hv (unh s) := by
        unfold pd hv
        rw [List.take_of_length_le (by rw [H64.out]; exact Nat.le_refl _)]
        simp
      have hr := HR.out
      rw [e] at hr
      have HX := Lib.hid (range_row hr)
      have h0 : wr.heap[w.heap.size]? = some (.cells hzer 23 (0, 0)) := (HO.out.block _ (by simp) (by omega)).trans (heap_alloc_last w _)
      have HT2 : Hid (wr.there w.heap.size 0 (hv (unh s)).size) := Lib.hid (by rw [hv_size, hn]; exact there_row h0)
      have HN := Lib.hid hn
      clear hr e hn h0 hs h64
      go_wp2_with (refine load_to HX.out Tryd.underlying23 rfl (hinfo' _ (by rw [hv_size, HN.out])) ?hx ?_; (case hx => rfl); refine store_to HT2.out (hinfo _ (by rw [hv_size, HN.out])) (hv_one _) ?hx ?hy ?_; (case hx => rfl); (case hy => simp [Act.put, Act.eval]))
      refine bodyPost_ret (v := .tuple #[.agg (hv (unh s)), .nilIface]) (w := wr.setCells w.heap.size 0 (hv (unh s)).toList) ?_ rfl ⟨rfl, ?_⟩
      · have hl := loaded (P := Tryd.prog) (t := 23) (q := hv (unh s)) HT2.out Tryd.underlying23 rfl (hinfo _ (by rw [hv_size, HN.out]))
        generalize wr.setCells w.heap.size 0 (hv (unh s)).toList = W3 at hl ⊢
        simp only [results, Tryd.results30]
        simp [hl, asAddr]
      · exact (((Only.of_below (S := fun k => w.heap.size ≤ k) HB.out).trans HO.out (fun _ h => h) (fun _ _ h => by omega)).setCells (b := w.heap.size) (Nat.le_refl _) _ 0).below (Nat.le_refl _) (fun _ h => h)
end Go.Proofs.YtgnagpohogiodaaDoor
