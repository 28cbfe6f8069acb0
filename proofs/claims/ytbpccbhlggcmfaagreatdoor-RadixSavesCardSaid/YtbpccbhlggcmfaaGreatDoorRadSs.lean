/- saved, unsaved, encode of a tree's nodes. Condition: a list is no longer than a million. · encode of a tree's node. No condition. · A disk with room enough takes every record; a node of a tree in memory, its record turned. No condition. -/
import Derived.Test.YtbpccbhlggcmfaaGreatDoorRadF
import Derived.Test.YtbpccbhlggcmfaaGreatDoorRadS
import Derived.Test.YtbpccbhlggcmfaaGreatDoorOctW
import Derived.Test.YtbpccbhlggcmfaaGreatDoorOctEnc
import Derived.Test.YtbpccbhlggcmfaaGreatDoorLogK
namespace Go.Proofs.YtbpccbhlggcmfaaGreatDoor
open Go.RowKit
attribute [local go_sem ↓] hld_open heq_open hne_open

theorem saved_none (w : World) : Calls Tryz.prog 34 #[.pointer none] w fun e w' => e = .returned (.int .i64 0) ∧ w = w' := by
  go_enter Tryz.func34, Tryz.ntmps34
  go_wp2_with fail
  go_ret
  exact ⟨rfl, rfl⟩
theorem saved_at (w : World) (b r : Nat) (h : List UInt8) (m : Int) (g : Option Nat) (hb : w.heap[b]? = some (.cells (nv r h m g) 91 (0, 0))) : Calls Tryz.prog 34 #[.pointer (some ⟨b, 0, none⟩)] w fun e w' => e = .returned (.int .i64 r) ∧ w = w' := by
  have c0 := nd_0 hb
  clear hb
  go_enter Tryz.func34, Tryz.ntmps34
  go_wp2_with fail
  go_ret
  exact ⟨rfl, rfl⟩
theorem saved_to (w : World) (ρ : Nat → Nat) (t : Nd) (ht : TA w ρ t) : Calls Tryz.prog 34 #[.pointer (pad t)] w fun e w' => e = .returned (.int .i64 (t.rec' ρ)) ∧ w = w' := by
  cases t with
  | none => exact saved_none w
  | leaf b h m => exact saved_at w b _ h m none ht.1
  | fork b g ws => exact saved_at w b _ hz 0 (some g) ht.1

theorem pinfo9 : (Tryz.prog.info? 64).map (fun i => (i.zero, i.size, i.bytes)) = some (some (.pointer none), 1, 8) := by kernel_rfl
/-- A list of nodes in memory. -/
abbrev POwn (w : World) (B : Nat) (v : Value) (l : List Nd) : Prop := w.ownsRow B 64 1 v l.length (l.map ptr)
theorem pown_shape {w : World} {B : Nat} {v : Value} {l : List Nd} (h : POwn w B v l) : ∃ p cap, v = .slice p l.length cap := by
  rcases h.2 with ⟨rfl, h0⟩ | ⟨g, cap, cur, rfl, _⟩
  · exact ⟨none, 0, by rw [h0]⟩
  · exact ⟨_, _, rfl⟩
theorem pown_kb {w w' : World} {B : Nat} {v : Value} {l : List Nd} (h : POwn w B v l) (hb : Below w.heap.size w w') : POwn w' B v l := by
  refine ⟨h.1, ?_⟩
  rcases h.2 with h1 | ⟨g, cap, cur, h1, h2, hg, h3⟩
  · exact .inl h1
  · exact .inr ⟨g, cap, cur, h1, h2, (hb.block g (Array.getElem?_eq_some_iff.1 hg).1).trans hg, h3⟩
/-- The nodes without a record below the first k ways. -/
def uu (ρ : Nat → Nat) (ws : Fin 16 → Nd) (k : Nat) : List Nd := (fins.take k).flatMap fun i => (ws i).usn ρ
theorem uu_succ (ρ : Nat → Nat) (ws : Fin 16 → Nd) (k : Nat) (h : k < 16) : uu ρ ws (k + 1) = uu ρ ws k ++ (ws ⟨k, h⟩).usn ρ := by
  unfold uu
  rw [List.take_add_one, fins_at k h]
  simp
theorem uu_le (ρ : Nat → Nat) (ws : Fin 16 → Nd) (k : Nat) : (uu ρ ws k).length ≤ (uu ρ ws 16).length := by
  unfold uu
  rw [List.take_of_length_le (i := 16) (by decide)]
  conv => rhs; rw [← List.take_append_drop k fins, List.flatMap_append, List.length_append]
  omega
theorem uu_fork {ρ : Nat → Nat} {b g : Nat} {ws : Fin 16 → Nd} (h : ρ b = 0) : (Nd.fork b g ws).usn ρ = uu ρ ws 16 ++ [.fork b g ws] := by
  unfold uu
  rw [List.take_of_length_le (by decide)]
  exact if_pos h
/-- Behind unsaved. -/
def UnPost (W : World) (B : Nat) (l : List Nd) (e : Ending) (W' : World) : Prop := ∃ v', e = .returned v' ∧ POwn W' B v' l ∧ Below B W W'
set_option maxRecDepth 20000 in
set_option maxHeartbeats 4000000 in
theorem unsaved_to (ρ : Nat → Nat) (B : Nat) (t : Nd) : ∀ (W : World) (l : List Nd) (v : Value), TA W ρ t → (∀ k, t.Bl k → k < B) → POwn W B v l → B ≤ W.heap.size → l.length + (t.usn ρ).length ≤ 1000000 →
    Calls Tryz.prog 29 #[.pointer (pad t), v] W (UnPost W B (l ++ t.usn ρ)) := by
  obtain ⟨i0, hi0, hz0, hz1, hz2⟩ := info_parts pinfo9
  induction t with
  | none =>
    intro W l v _ _ ho _ _
    obtain ⟨p, cap, rfl⟩ := pown_shape ho
    have HO := Lib.hid ho
    rw [show Nd.none.usn ρ = [] from rfl, List.append_nil, pad_none]
    clear ho
    go_enter Tryz.func29, Tryz.ntmps29
    go_wp2_with fail
    go_ret
    exact ⟨_, rfl, HO.out, Below.refl _ _⟩
  | leaf b h m =>
    intro W l v ht _ ho hB hn
    obtain ⟨p, cap, rfl⟩ := pown_shape ho
    have c0 := nd_0 ht.1
    have c34 := nd_34 ht.2 ht.1
    simp only [gptr] at c34
    have HO := Lib.hid ho
    have HB := Lib.hid hB
    rw [pad_leaf]
    by_cases e : ρ b = 0
    · have hu : (Nd.leaf b h m).usn ρ = [.leaf b h m] := if_pos e
      rw [hu] at hn ⊢
      rw [e] at c0
      have hf : l.length + 1 ≤ maxLen ∧ (l.length + 1) * 8 ≤ 140737488355328 := by simp at hn; unfold maxLen; omega
      have HF := Lib.hid hf
      clear ht ho hB hf hn e hu
      go_enter Tryz.func29, Tryz.ntmps29
      go_wp2_with (at_builtin; refine wpList_append_lies _ (by rfl) (.tmp 35) (.tmp 37) _ (by rfl) B 64 i0 _ 1 8 Tryz.underlying82 hi0 hz0 hz1 hz2 rfl (by omega) (.slice p l.length cap) l.length _ (by rfl) (HO.out.alloc _) ⟨W.heap.size, 0, none⟩ 1 1 [.pointer (some ⟨b, 0, none⟩)] (by rfl) (by rfl) (World.news_of_block (cs := #[.pointer (some ⟨b, 0, none⟩)]) (t := 64) (fr := (0, 0)) (heap_alloc_new W _)) (by simp [Value.oneCell']) (by decide) HF.out.1 HF.out.2 (Nat.le_trans HB.out (by simp)) (W.heap.size + 1) (by simp) ?_; intro gg cap6 w6 own6 grow6 _ _; have O6 := Lib.hid own6; have G6 := Lib.hid grow6; clear own6 grow6)
      go_ret
      refine ⟨_, rfl, ?_, ((Below.refl B W).alloc HB.out _).grown G6.out (Nat.le_trans HB.out (by simp)) (fun k hk => (HO.out.lt k hk).1)⟩
      have h1 := O6.out
      unfold POwn
      rw [show (l ++ [Nd.leaf b h m]).length = l.length + 1 from by simp, List.map_append]
      exact h1
    · have hu : (Nd.leaf b h m).usn ρ = [] := if_neg e
      rw [hu, List.append_nil]
      have hne : (((ρ b : Nat) : Int) == 0) = false := by simp; omega
      obtain ⟨r, hr⟩ : ∃ r : Int, r = ((ρ b : Nat) : Int) := ⟨_, rfl⟩
      rw [← hr] at c0 hne
      clear ht ho hB hn e hu hr
      go_enter Tryz.func29, Tryz.ntmps29
      go_wp2_with fail
      go_ret
      exact ⟨_, rfl, HO.out, Below.refl _ _⟩
  | fork b g ws ih =>
    intro W l v ht hbl ho hB hn
    obtain ⟨p, cap, rfl⟩ := pown_shape ho
    have c0 := nd_0 ht.1
    have c34 := nd_34 hz_len ht.1
    simp only [gptr] at c34
    have HO := Lib.hid ho
    have HB := Lib.hid hB
    have HT := Lib.hid ht
    have HBL := Lib.hid hbl
    rw [pad_fork]
    by_cases e : ρ b = 0
    case neg =>
      have hu : (Nd.fork b g ws).usn ρ = [] := if_neg e
      rw [hu, List.append_nil]
      have hne : (((ρ b : Nat) : Int) == 0) = false := by simp; omega
      obtain ⟨r, hr⟩ : ∃ r : Int, r = ((ρ b : Nat) : Int) := ⟨_, rfl⟩
      rw [← hr] at c0 hne
      clear ht ho hB hn e hu hr hbl ih
      go_enter Tryz.func29, Tryz.ntmps29
      go_wp2_with fail
      go_ret
      exact ⟨_, rfl, HO.out, Below.refl _ _⟩
    case pos =>
      have hu := uu_fork (g := g) (ws := ws) e
      rw [hu] at hn ⊢
      rw [e] at c0
      have hnn : l.length + (uu ρ ws 16).length + 1 ≤ 1000000 := by simp at hn; omega
      have HN := Lib.hid hnn
      have HIH := Lib.hid ih
      have hgB : g < B := hbl g (.inr (.inl rfl))
      have HGB := Lib.hid hgB
      have hst : Hid (POwn W B (.slice p l.length cap) (l ++ uu ρ ws 0)) := Lib.hid (by rw [show uu ρ ws 0 = [] from rfl, List.append_nil]; exact ho)
      clear ht hbl ho hB hn hu e hnn ih hgB
      go_enter Tryz.func29, Tryz.ntmps29
      go_wp2_with fail
      go_loopw [1, 26] (fun u i wr => ∃ (k : Nat), k ≤ 16 ∧ i = .int .i64 k ∧ Hid (Below B W wr) ∧ Hid (POwn wr B u (l ++ uu ρ ws k))) (fun _ i _ => 16 - (intOf i).toNat)
      case atStart => exact ⟨0, by omega, rfl, Lib.hid (Below.refl _ _), hst⟩
      case round =>
        obtain ⟨k, hk, rfl, HBB, HPO⟩ := hrel
        obtain ⟨zs, hzs⟩ : ∃ zs, zs = l ++ uu ρ ws k := ⟨_, rfl⟩
        rw [← hzs] at HPO
        have HZS := Lib.hid hzs
        obtain ⟨pk, ck, rfl⟩ := pown_shape HPO.out
        clear hzs
        by_cases hlt : k < 16
        · have hway := way_at (W := wr) ((HBB.out.block g HGB.out).trans HT.out.2.1) ⟨k, hlt⟩
          rw [ptr_pad] at hway
          have HUS := Lib.hid (uu_succ ρ ws k hlt)
          have hsz : zs.length + ((ws ⟨k, hlt⟩).usn ρ).length ≤ 1000000 := by
            rw [HZS.out]
            have h1 := uu_le ρ ws (k + 1)
            rw [HUS.out, List.length_append] at h1
            have h2 := HN.out
            rw [List.length_append]; omega
          have HC := Lib.hid (HIH.out ⟨k, hlt⟩ wr zs _ ((HT.out.2.2 ⟨k, hlt⟩).base (fun j hj => HBL.out j (Bl_way hj)) HBB.out) (fun j hj => HBL.out j (Bl_way hj)) HPO.out (Nat.le_trans HB.out HBB.out.size) hsz)
          have HZU : Hid (zs ++ (ws ⟨k, hlt⟩).usn ρ = l ++ uu ρ ws (k + 1)) := Lib.hid (by rw [HZS.out, List.append_assoc, ← HUS.out])
          rw [HZU.out] at HC
          have hdc : decide ((k : Int) < 16) = true := decide_eq_true (by omega)
          simp only at hway
          clear hsz
          generalize pad (ws ⟨k, hlt⟩) = P at hway HC
          go_wp2_with (go_at_call 29; refine HC.out.mono ?_; rintro e w1 ⟨v1, rfl, o1, b1⟩; have O1 := Lib.hid o1; have B1 := Lib.hid b1; clear o1 b1)
          go_round
          case rel => exact ⟨k + 1, by omega, by go_num, Lib.hid (HBB.out.trans B1.out), O1⟩
          case measure => simp [intOf]; omega
        · obtain rfl : k = 16 := by omega
          have hdc : decide (((16 : Nat) : Int) < 16) = false := by decide
          obtain ⟨L, hLz⟩ : ∃ L, L = zs := ⟨_, rfl⟩
          have hL : L = l ++ uu ρ ws 16 := hLz.trans HZS.out
          subst hLz
          have HL := Lib.hid hL
          have hf : L.length + 1 ≤ maxLen ∧ (L.length + 1) * 8 ≤ 140737488355328 := by
            have h2 := HN.out
            rw [hL, List.length_append]
            unfold maxLen; omega
          have HF := Lib.hid hf
          have HBS : Hid (B ≤ wr.heap.size) := Lib.hid (Nat.le_trans HB.out HBB.out.size)
          clear hL hf
          go_wp2_with (at_builtin; refine wpList_append_lies _ (by rfl) (.tmp 35) (.tmp 37) _ (by rfl) B 64 i0 _ 1 8 Tryz.underlying82 hi0 hz0 hz1 hz2 rfl (by omega) (.slice pk L.length ck) L.length _ (by rfl) (HPO.out.alloc _) ⟨wr.heap.size, 0, none⟩ 1 1 [.pointer (some ⟨b, 0, none⟩)] (by rfl) (by rfl) (World.news_of_block (cs := #[.pointer (some ⟨b, 0, none⟩)]) (t := 64) (fr := (0, 0)) (heap_alloc_new wr _)) (by simp [Value.oneCell']) (by decide) HF.out.1 HF.out.2 (Nat.le_trans HBS.out (by simp)) (wr.heap.size + 1) (by simp) ?_; intro gg cap6 w6 own6 grow6 _ _; have O6 := Lib.hid own6; have G6 := Lib.hid grow6; clear own6 grow6)
          go_ret
          refine ⟨_, rfl, ?_, (HBB.out.alloc HBS.out _).grown G6.out (Nat.le_trans HBS.out (by simp)) (fun k hk => (HPO.out.lt k hk).1)⟩
          have h1 := O6.out
          unfold POwn
          rw [← List.append_assoc, ← HL.out, show (L ++ [Nd.fork b g ws]).length = L.length + 1 from by simp, List.map_append]
          exact h1
end Go.Proofs.YtbpccbhlggcmfaaGreatDoor
namespace Go.Proofs.YtbpccbhlggcmfaaGreatDoor
open Go.RowKit
attribute [local go_sem ↓] hld_open heq_open hne_open

theorem vb_length (n : Int) : (vb n).length ≤ 10 := leb_length 9 _
def fv (ρ : Nat → Nat) (ws : Fin 16 → Nd) (k : Nat) : List Int := (fins.take k).flatMap fun i => vb ((ws i).rec' ρ : Int)
theorem fv_succ (ρ : Nat → Nat) (ws : Fin 16 → Nd) (k : Nat) (h : k < 16) : fv ρ ws (k + 1) = fv ρ ws k ++ vb ((ws ⟨k, h⟩).rec' ρ : Int) := by
  unfold fv
  rw [List.take_add_one, fins_at k h]
  simp
theorem fv_16 (ρ : Nat → Nat) (ws : Fin 16 → Nd) : fv ρ ws 16 = frec ρ ws := by
  unfold fv frec
  rw [List.take_of_length_le (by decide)]
theorem fv_length (ρ : Nat → Nat) (ws : Fin 16 → Nd) : ∀ k, k ≤ 16 → (fv ρ ws k).length ≤ 10 * k
  | 0, _ => by simp [fv]
  | k + 1, h => by
    have h1 := fv_length ρ ws k (by omega)
    have h2 := vb_length ((ws ⟨k, by omega⟩).rec' ρ : Int)
    rw [fv_succ ρ ws k (by omega), List.length_append]
    omega
theorem body_length (ρ : Nat → Nat) {s : Nd} (h : ∀ b x m, s = .leaf b x m → x.length = 32) : (s.body ρ).2.length ≤ 160 := by
  cases s with
  | none => simp [Nd.body]
  | leaf b x m =>
    have h1 := vb_length m
    have h2 := h b x m rfl
    simp only [Nd.body, lrec, List.length_append, nm_length]
    omega
  | fork b g ws =>
    have := fv_length ρ ws 16 (Nat.le_refl _)
    rw [fv_16] at this
    simp only [Nd.body]
    omega
theorem leb_ok9 : ∀ (f : Nat) (u : Int), 0 ≤ u → u < 128 ^ (f + 1) → Okb (leb f u)
  | 0, u, h0, h1 => fun x hx => by
    rw [leb, List.mem_singleton] at hx
    subst hx
    simp at h1
    omega
  | f + 1, u, h0, h1 => by
    unfold leb
    split
    · rename_i h
      intro x hx
      rw [List.mem_singleton] at hx
      omega
    · intro x hx
      rcases List.mem_cons.1 hx with rfl | hx
      · omega
      · refine leb_ok9 f (u / 128) (by omega) ?_ x hx
        have h2 : (128 : Int) ^ (f + 1 + 1) = 128 ^ (f + 1) * 128 := Int.pow_succ ..
        rw [h2] at h1
        exact Int.ediv_lt_of_lt_mul (by decide) h1
theorem vb_ok (n : Int) : Okb (vb n) := leb_ok9 9 _ (by rw [IntKind.wrap_u64]; omega) (u64_lt n)
theorem nmb_ok (l : List UInt8) : Okb (nmb l) := fun x hx => by
  obtain ⟨b, _, rfl⟩ := List.mem_map.1 hx
  have := b.toNat_lt
  omega
theorem seen_hash {w : World} {b r : Nat} {h : List UInt8} {m : Int} {g : Option Nat} {t : TypeId} (hh : h.length = 32) (hb : w.heap[b]? = some (.cells (nv r h m g) t (0, 0))) : Seen w (.slice (some ⟨b, 1, none⟩) 32 32) (nmb h) := by
  refine .inr ⟨⟨b, 1, none⟩, 32, by rw [nm_length, hh], by rw [nm_length, hh]; exact Nat.le_refl _, fun j u hj => ?_⟩
  rw [Addr.add_lit]
  exact nd_h hh hb j u hj
def EnPost (w : World) (z : Int × List Int) (e : Ending) (w' : World) : Prop := ∃ v', e = .returned (.tuple #[.int .i64 z.1, v']) ∧ w'.ownsRow w.heap.size 5 1 v' z.2.length (us z.2) ∧ Below w.heap.size w w'
set_option maxRecDepth 20000 in
set_option maxHeartbeats 4000000 in
theorem encode_leaf (w : World) (b r : Nat) (h : List UInt8) (m : Int) (hh : h.length = 32) (hb : w.heap[b]? = some (.cells (nv r h m none) 91 (0, 0))) :
    Calls Tryz.prog 31 #[.pointer (some ⟨b, 0, none⟩)] w (EnPost w (1, lrec h m)) := by
  have HB := Lib.hid hb
  have HH := Lib.hid hh
  clear hb hh
  go_enter Tryz.func31, Tryz.ntmps31
  go_wp2_with fail
  refine (newwriter_any _ w.heap.size (Nat.le_refl _)).mono ?_
  rintro e w1 ⟨rfl, h1, b1, _⟩
  have H1 := Lib.hid h1
  have B1 := Lib.hid b1
  have HB1 := Lib.hid ((b1.block b (Array.getElem?_eq_some_iff.1 HB.out).1).trans HB.out)
  have c34 := nd_34 HH.out HB1.out
  simp only [gptr] at c34
  clear h1 b1
  go_wp2_with fail
  refine (wraw_any _ _ _ (.slice (some ⟨b, 1, none⟩) 32 32) _ (nmb h) w.heap.size (by decide) (by rw [nm_length, HH.out]; decide) H1.out (seen_hash HH.out HB1.out)).mono ?_
  rintro e w2 ⟨rfl, v2, h2, o2, _⟩
  have H2 := Lib.hid h2
  have B2 := Lib.hid (B1.out.trans (H1.out.below o2))
  have HB2 := Lib.hid ((B2.out.block b (Array.getElem?_eq_some_iff.1 HB.out).1).trans HB.out)
  have c33 := nd_33 HH.out HB2.out
  clear h2 o2 c34 HB1 H1 B1
  go_wp2_with fail
  refine (wvar_any _ _ _ _ m w.heap.size (by rw [List.nil_append, nm_length, HH.out]; decide) H2.out).mono ?_
  rintro e w3 ⟨rfl, v3, h3, o3, _⟩
  have H3 : Hid (Wr 163 w.heap.size w3 w.heap.size v3 (lrec h m)) := Lib.hid h3
  have B3 := Lib.hid (B2.out.trans (H2.out.below o3))
  clear h3 o3 c33 HB2 H2 B2
  go_wp2_with fail
  refine (wbytes_any _ _ _ _ w.heap.size (by have := vb_length m; rw [lrec, List.length_append, nm_length, HH.out]; omega) H3.out).mono ?_
  rintro e w4 ⟨v4, rfl, h4, b4⟩
  have S4 := Lib.hid h4
  have B4 := Lib.hid (B3.out.trans (b4.mono B3.out.size))
  have BS := Lib.hid B3.out.size
  clear h4 b4
  go_wp2_with fail
  go_ret2
  exact ⟨v4, rfl, S4.out.mono BS.out, B4.out⟩
theorem wr_len {T B b : Nat} {w : World} {v : Value} {xs : List Int} (h : Wr T B w b v xs) : b < w.heap.size := h.lt
set_option maxRecDepth 20000 in
set_option maxHeartbeats 4000000 in
theorem encode_fork (w : World) (ρ : Nat → Nat) (b g : Nat) (ws : Fin 16 → Nd) (ht : TA w ρ (.fork b g ws)) :
    Calls Tryz.prog 31 #[.pointer (some ⟨b, 0, none⟩)] w (EnPost w (2, frec ρ ws)) := by
  have HT := Lib.hid ht
  clear ht
  go_enter Tryz.func31, Tryz.ntmps31
  go_wp2_with fail
  refine (newwriter_any _ w.heap.size (Nat.le_refl _)).mono ?_
  rintro e w1 ⟨rfl, h1, b1, _⟩
  have H1 : Hid (∃ v, Wr 163 w.heap.size w1 w.heap.size v (fv ρ ws 0)) := Lib.hid ⟨_, h1⟩
  have B1 := Lib.hid b1
  have HT1 := Lib.hid (HT.out.kb b1)
  have c34 := nd_34 hz_len HT1.out.1
  simp only [gptr] at c34
  clear h1 b1
  go_wp2_with fail
  go_loopw [31] (fun i wr => ∃ (k : Nat), k ≤ 16 ∧ i = .int .i64 k ∧ Hid (Below w.heap.size w wr) ∧ Hid (∃ v, Wr 163 w.heap.size wr w.heap.size v (fv ρ ws k))) (fun i _ => 16 - (intOf i).toNat)
  case atStart => exact ⟨0, by omega, rfl, B1, H1⟩
  case round =>
    obtain ⟨k, hk, rfl, BB, HW⟩ := hrel
    obtain ⟨vk, hvk⟩ := HW.out
    have HV := Lib.hid hvk
    have HTk := Lib.hid (HT.out.kb BB.out)
    have hlen := fv_length ρ ws k hk
    clear hvk HW
    by_cases hlt : k < 16
    · have hway := way_at (W := wr) HTk.out.2.1 ⟨k, hlt⟩
      rw [ptr_pad] at hway
      have HS := Lib.hid (saved_to wr ρ (ws ⟨k, hlt⟩) (HTk.out.2.2 ⟨k, hlt⟩))
      have HSU := Lib.hid (fv_succ ρ ws k hlt)
      have hdc : decide ((k : Int) < 16) = true := decide_eq_true (by omega)
      have HLB : Hid ((fv ρ ws k).length < 1000000000) := Lib.hid (by omega)
      simp only at hway
      generalize (ws ⟨k, hlt⟩).rec' ρ = r at *
      generalize pad (ws ⟨k, hlt⟩) = P at hway HS
      clear hlen
      go_wp2_with (first
        | (go_at_call 34; refine HS.out.mono ?_; rintro e w' ⟨rfl, rfl⟩)
        | (go_at_call 62; refine (wvar_any _ _ _ _ r w.heap.size HLB.out HV.out).mono ?_; rintro e w3 ⟨rfl, v3, h3, o3, _⟩; have H3 : Hid (Wr 163 w.heap.size w3 w.heap.size v3 (fv ρ ws (k + 1))) := Lib.hid (by rw [HSU.out]; exact h3); have B3 := Lib.hid (BB.out.trans (HV.out.below o3)); clear h3 o3))
      go_round
      case rel => exact ⟨k + 1, by omega, by go_num, B3, Lib.hid ⟨v3, H3.out⟩⟩
      case measure => simp [intOf]; omega
    · obtain rfl : k = 16 := by omega
      have hdc : decide (((16 : Nat) : Int) < 16) = false := by decide
      have HLB : Hid ((fv ρ ws 16).length < 1000000000) := Lib.hid (by omega)
      have HBY := Lib.hid (wbytes_any wr w.heap.size vk _ w.heap.size HLB.out HV.out)
      rw [fv_16] at HBY
      have BS := Lib.hid BB.out.size
      clear hlen
      go_wp2_with (go_at_call 63; refine HBY.out.mono ?_; rintro e w4 ⟨v4, rfl, h4, b4⟩; have S4 := Lib.hid h4; have B4 := Lib.hid (BB.out.trans (b4.mono BB.out.size)); clear h4 b4)
      go_ret2
      exact ⟨v4, rfl, S4.out.mono BS.out, B4.out⟩
/-- The record of any node. -/
theorem encode_to (w : World) (ρ : Nat → Nat) (s : Nd) (b : Nat) (hb : pad s = some ⟨b, 0, none⟩) (ht : TA w ρ s) : Calls Tryz.prog 31 #[.pointer (some ⟨b, 0, none⟩)] w (EnPost w (s.body ρ)) := by
  cases s with
  | none => cases hb
  | leaf c h m =>
    have e : c = b := by injection hb with hb; injection hb
    subst e
    exact encode_leaf w c _ h m ht.2 ht.1
  | fork c g ws =>
    have e : c = b := by injection hb with hb; injection hb
    subst e
    exact encode_fork w ρ c g ws ht
end Go.Proofs.YtbpccbhlggcmfaaGreatDoor
namespace Go.Proofs.YtbpccbhlggcmfaaGreatDoor
open Go.RowKit
open Go.Maps

/-- The disk has room for n more records. -/
structure Ok9 (s : St) (nm : Key) (R : List Rc) (n : Nat) : Prop where
  name : okName nm = true
  dead : s.dead = false
  fuse : s.fuse = -1
  asc : AAsc s.files
  works : s.works + n ≤ 900000000
  used : (s.used : Int) + 169 * n ≤ s.room
  ends : Go.Proofs.YtbpccbhlggcmfaaGreatDoor.ends R + 169 * n ≤ 900000000
theorem Ok9.le {s : St} {nm : Key} {R : List Rc} {n m : Nat} (h : Ok9 s nm R n) (hm : m ≤ n) : Ok9 s nm R m :=
  { h with works := by have := h.works; omega, used := by have := h.used; omega, ends := by have := h.ends; omega }
theorem add_ok {s : St} {nm : Key} {R : List Rc} {n : Nat} {k : Int} {x : List Int} (h : Ok9 s nm R (n + 1)) (hk : 1 ≤ k ∧ k ≤ 255) (hx : x.length ≤ 160) :
    ∃ s', addS s nm R k x = (0, s', R ++ [(k, x)]) ∧ Ok9 s' nm (R ++ [(k, x)]) n := by
  have hf : (frm k x).length = 9 + x.length := frm_len k x
  have hu := h.used
  have hap : s.append nm (frm k x) = (0, { s with pend := s.pend ++ [⟨0, nm, [], frm k x, 0⟩], fuse := s.fuse, works := s.works + 1 }) := by
    unfold St.append
    rw [if_neg (by rw [h.name]; decide), if_neg (by rw [h.dead]; decide), if_neg (by rw [hf]; omega)]
    unfold St.work
    rw [if_neg (by rw [h.fuse]; decide), if_neg (by rw [h.fuse]; decide)]
  refine ⟨{ s with pend := s.pend ++ [⟨0, nm, [], frm k x, 0⟩], fuse := s.fuse, works := s.works + 1 }, ?_, ?_⟩
  · unfold addS
    rw [if_neg (by omega), hap, if_pos rfl]
  · have hfl : (({ s with pend := s.pend ++ [⟨0, nm, [], frm k x, 0⟩], fuse := s.fuse, works := s.works + 1 } : St)).files = turn s.files ⟨0, nm, [], frm k x, 0⟩ := run_snoc s.kept s.pend _
    refine ⟨h.name, h.dead, h.fuse, by rw [hfl]; exact turn_asc h.asc _, ?_, ?_, ?_⟩
    · have := h.works
      show s.works + 1 + n ≤ _
      omega
    · unfold St.used
      rw [hfl, turn_app_tot s.files h.asc nm (frm k x), hf]
      have hu' : ((totF s.files : Nat) : Int) + 169 * ((n + 1 : Nat) : Int) ≤ s.room := hu
      show (((totF s.files + (9 + x.length) : Nat)) : Int) + 169 * (n : Int) ≤ s.room
      omega
    · rw [ends_snoc]
      have := h.ends
      show Go.Proofs.YtbpccbhlggcmfaaGreatDoor.ends R + (9 + x.length) + 169 * n ≤ _
      omega
/-- The node at hand lies in memory. -/
theorem ta_in {W : World} {ρ : Nat → Nat} : ∀ {t s : Nd}, TA W ρ t → s.In t → TA W ρ s
  | .none, _, _, h => h.elim
  | .leaf b h m, s, ht, hs => by rw [show s = _ from hs]; exact ht
  | .fork b g ws, s, ht, hs => by
    rcases hs with rfl | ⟨i, hi⟩
    · exact ht
    · exact ta_in (ht.2.2 i) hi
theorem in_pad : ∀ {t s : Nd}, s.In t → pad s = some ⟨s.blk, 0, none⟩
  | .none, _, h => h.elim
  | .leaf b h m, s, hs => by rw [show s = _ from hs]; rfl
  | .fork b g ws, s, hs => by
    rcases hs with rfl | ⟨i, hi⟩
    · rfl
    · exact in_pad hi
/-- The record of one block is turned: the whole tree is there with the new number. -/
theorem ta_turn {W : World} {ρ : Nat → Nat} {b : Nat} (n : Nat) : ∀ {t : Nd}, TA W ρ t → t.Sep → ((∃ s : Nd, s.In t ∧ s.blk = b) ∨ ¬ t.Bl b) → TA (W.setCell ⟨b, 0, none⟩ (.int .i64 (n : Nat))) (upn ρ b n) t
  | .none, _, _, _ => trivial
  | .leaf c h m, ht, _, _ => by
    by_cases e : c = b
    · subst e
      refine ⟨?_, ht.2⟩
      rw [cells_set ht.1, upn_same]; rfl
    · exact ⟨by rw [Below.heap_setCell _ _ _ _ e, upn_other _ _ e]; exact ht.1, ht.2⟩
  | .fork c g ws, ht, hp, hb => by
    have hcs : (∃ s : Nd, s.In (.fork c g ws) ∧ s.blk = b) ∨ ¬ (Nd.fork c g ws).Bl b := hb
    have hgb : g ≠ b := fun e => by
      rcases hcs with ⟨s, hs, hsb⟩ | hn
      · rcases hs with rfl | ⟨i, hi⟩
        · exact hp.1 (by rw [e]; exact hsb)
        · exact (hp.2.1 i).2.1 (by rw [e, ← hsb]; exact in_blk hi)
      · exact hn (.inr (.inl e.symm))
    refine ⟨?_, by rw [Below.heap_setCell _ _ _ _ hgb]; exact ht.2.1, fun i => ?_⟩
    · by_cases e : c = b
      · subst e
        rw [cells_set ht.1, upn_same]; rfl
      · rw [Below.heap_setCell _ _ _ _ e, upn_other _ _ e]; exact ht.1
    · refine ta_turn n (ht.2.2 i) (hp.2.1 i).2.2 ?_
      rcases hcs with ⟨s, hs, hsb⟩ | hn
      · rcases hs with rfl | ⟨j, hj⟩
        · exact .inr (by rw [← hsb]; exact (hp.2.1 i).1)
        · by_cases e : i = j
          · subst e; exact .inl ⟨s, hj, hsb⟩
          · refine .inr fun h => ?_
            rw [← hsb] at h
            exact hp.2.2 i j s.blk e h (in_blk hj)
      · exact .inr fun h => hn (Bl_way h)
end Go.Proofs.YtbpccbhlggcmfaaGreatDoor
