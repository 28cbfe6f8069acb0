/- The reference's files: a row of names and bytes that nothing changes; find, used, drop. Condition: no more than a million files; the bytes together within an int. · A file laid in its place, told by where the search for it stops: plain mathematics. No condition. · What put of the reference's files does. Condition: no more than a million files. · What turn of the reference's files does with each work. Conditions: no more than a million files; the bytes within 2^24. -/
import Derived.Test.YtfneadlknieppaaGreatDoorDskJ
import Derived.Test.YtfneadlknieppaaGreatDoorGenApp
import Derived.Test.YtfneadlknieppaaGreatDoorLogC
import Derived.Test.YtfneadlknieppaaGreatDoorLogK
import Derived.Test.YtfneadlknieppaaGreatDoorOctR
import Derived.Test.YtfneadlknieppaaGreatDoorDskH
namespace Go.Proofs.YtfneadlknieppaaGreatDoor
open Go.RowKit
open Go.Maps

theorem less_before : ∀ a b : Key, Op.bytesLess a b = bytesBefore a b
  | [], [] => rfl
  | _ :: _, [] => rfl
  | [], _ :: _ => rfl
  | x :: a, y :: b => by rw [Op.bytesLess, bytesBefore, less_before a b]
theorem key_beq (a b : Key) : (a == b) = decide (a = b) := by
  by_cases h : a = b
  · simp [h]
  · simp [h]
theorem key_eq {a b : Key} : (⟨a.toArray⟩ : ByteArray) = ⟨b.toArray⟩ ↔ a = b := by
  constructor
  · intro h
    have := congrArg (fun x : ByteArray => x.data.toList) h
    simpa using this
  · rintro rfl; rfl
abbrev Fe := Key × Ent
def frow (e : Fe) : List Value := [stv e.1, e.2.1]
def frows : List Fe → List Value
  | [] => []
  | e :: r => frow e ++ frows r
theorem frows_length : ∀ E : List Fe, (frows E).length = E.length * 2
  | [] => rfl
  | e :: r => by simp [frows, frow, frows_length r]; omega
theorem frows_app : ∀ E F : List Fe, frows (E ++ F) = frows E ++ frows F
  | [], _ => rfl
  | e :: r, F => by simp [frows, frows_app r F]
theorem frows_one (e : Fe) : frows [e] = frow e := by simp [frows]
theorem frows_at : ∀ (E : List Fe) (i c : Nat) (hi : i < E.length), c < 2 → (frows E)[i * 2 + c]? = (frow E[i])[c]?
  | e :: r, 0, c, _, hc => by
    rw [frows, List.getElem?_append_left (by simp [frow]; omega)]
    simp
  | e :: r, i + 1, c, hi, hc => by
    rw [frows, List.getElem?_append_right (by simp [frow]; omega), show (i + 1) * 2 + c - (frow e).length = i * 2 + c from by simp [frow]; omega]
    rw [frows_at r i c (by simpa using hi) hc]
    simp
theorem frows_take (E : List Fe) : ∀ k, frows (E.take k) = (frows E).take (k * 2) := by
  induction E with
  | nil => intro k; simp [frows]
  | cons e r ih =>
    intro k
    cases k with
    | zero => simp [frows]
    | succ k =>
      have h1 : (frow e).take ((k + 1) * 2) = frow e := List.take_of_length_le (by show 2 ≤ _; omega)
      rw [List.take_succ_cons, frows, frows, ih, List.take_append, show (frow e).length = 2 from rfl, h1, show (k + 1) * 2 - 2 = k * 2 from by omega]
theorem frows_drop (E : List Fe) : ∀ k, frows (E.drop k) = (frows E).drop (k * 2) := by
  induction E with
  | nil => intro k; simp [frows]
  | cons e r ih =>
    intro k
    cases k with
    | zero => simp
    | succ k =>
      have h1 : (frow e).drop ((k + 1) * 2) = [] := List.drop_of_length_le (by show 2 ≤ _; omega)
      rw [List.drop_succ_cons, frows, ih, List.drop_append, show (frow e).length = 2 from rfl, h1, show (k + 1) * 2 - 2 = k * 2 from by omega, List.nil_append]
/-- Bytes that nothing changes: their block is one of A. -/
structure BAt (w : World) (A : Nat → Prop) (v : Value) (l : List Int) : Prop where
  seenr : SeenR w v l
  blk : l ≠ [] → ∀ k, v.ownBlock = some k → A k
/-- A row of files. -/
structure FAt (w : World) (A : Nat → Prop) (v : Value) (E : List Fe) : Prop where
  row : (v = .slice none 0 0 ∧ E = []) ∨ ∃ g o cap, v = .slice (some ⟨g, o, none⟩) E.length cap ∧ E.length ≤ cap ∧ (E ≠ [] → A g) ∧ ∀ j u, (frows E)[j]? = some u → w.cell? ⟨g, o + j, none⟩ = some u
  bod : ∀ e ∈ E, BAt w A e.2.1 e.2.2
section
variable {w w' : World} {A T : Nat → Prop} {v : Value} {E : List Fe} {l : List Int}
theorem BAt.seen (h : BAt w A v l) : Seen w v l := h.seenr.seen
theorem BAt.kept (h : BAt w A v l) (ho : Only T w w') (hT : ∀ k, A k → ¬ T k) : BAt w' A v l := by
  refine ⟨?_, h.blk⟩
  rcases h.seenr with h1 | ⟨g, o, cap, rfl, hc, hu⟩
  · exact .inl h1
  · refine .inr ⟨g, o, cap, rfl, hc, fun j u hj => ?_⟩
    have h1 := hu j u hj
    have h2 := World.block_lt_of_cell? w _ h1
    rw [World.cell?_of_block (w := w) (ho.block _ h2 (hT _ (h.blk (by rintro rfl; simp at hj) g rfl)))]
    exact h1
theorem BAt.kb (h : BAt w A v l) (hb : Below w.heap.size w w') : BAt w' A v l := BAt.kept (T := fun _ => False) h (Only.of_below hb) (fun _ _ h => h)
theorem BAt.mono {A' : Nat → Prop} (h : BAt w A v l) (hA : ∀ k, A k → A' k) : BAt w A' v l := ⟨h.seenr, fun hn k hk => hA k (h.blk hn k hk)⟩
theorem FAt.kept (h : FAt w A v E) (ho : Only T w w') (hT : ∀ k, A k → ¬ T k) : FAt w' A v E := by
  refine ⟨?_, fun e he => (h.bod e he).kept ho hT⟩
  rcases h.row with h1 | ⟨g, o, cap, h1, hc, hg, hu⟩
  · exact .inl h1
  · refine .inr ⟨g, o, cap, h1, hc, hg, fun j u hj => ?_⟩
    have h1 := hu j u hj
    have h2 := World.block_lt_of_cell? w _ h1
    rw [World.cell?_of_block (w := w) (ho.block _ h2 (hT _ (hg (by rintro rfl; simp [frows] at hj))))]
    exact h1
theorem FAt.kb (h : FAt w A v E) (hb : Below w.heap.size w w') : FAt w' A v E := by
  have h1 := (FAt.kept (A := A) (T := fun _ => False) h (Only.of_below hb) (fun _ _ h => h))
  exact h1
theorem FAt.mono {A' : Nat → Prop} (h : FAt w A v E) (hA : ∀ k, A k → A' k) : FAt w A' v E := by
  refine ⟨?_, fun e he => (h.bod e he).mono hA⟩
  rcases h.row with h1 | ⟨g, o, cap, h1, hc, hg, hu⟩
  · exact .inl h1
  · exact .inr ⟨g, o, cap, h1, hc, fun hn => hA g (hg hn), hu⟩
theorem BAt.tight (h : BAt w A v l) : BAt w (fun k => A k ∧ k < w.heap.size) v l := by
  refine ⟨h.seenr, fun hn k hk => ⟨h.blk hn k hk, ?_⟩⟩
  rcases h.seenr with ⟨h1, h2⟩ | ⟨g, o, cap, rfl, hc, hu⟩
  · exact absurd h2 hn
  · cases hk
    obtain ⟨x, r, rfl⟩ := List.exists_cons_of_ne_nil hn
    exact World.block_lt_of_cell? w (⟨g, o + 0, none⟩ : Addr) (hu 0 (.int .u8 x) rfl)
theorem FAt.tight (h : FAt w A v E) : FAt w (fun k => A k ∧ k < w.heap.size) v E := by
  refine ⟨?_, fun e he => (h.bod e he).tight⟩
  rcases h.row with h1 | ⟨g, o, cap, h1, hc, hg, hu⟩
  · exact .inl h1
  · refine .inr ⟨g, o, cap, h1, hc, fun hn => ⟨hg hn, ?_⟩, hu⟩
    obtain ⟨x, r, rfl⟩ := List.exists_cons_of_ne_nil hn
    exact World.block_lt_of_cell? w (⟨g, o + 0, none⟩ : Addr) (hu 0 (stv x.1) rfl)
theorem FAt.nil (w : World) (A : Nat → Prop) : FAt w A (.slice none 0 0) [] := ⟨.inl ⟨rfl, rfl⟩, fun e he => by cases he⟩
theorem FAt.slice (h : FAt w A v E) : ∃ p cap, v = .slice p E.length cap ∧ (0 < E.length → ∃ g o, p = some ⟨g, o, none⟩) := by
  rcases h.row with ⟨h1, rfl⟩ | ⟨g, o, cap, h1, _⟩
  · exact ⟨none, 0, h1, fun h => absurd h (Nat.lt_irrefl _)⟩
  · exact ⟨_, _, h1, fun _ => ⟨g, o, rfl⟩⟩
theorem FAt.at {g o n cap : Nat} (h : FAt w A (.slice (some ⟨g, o, none⟩) n cap) E) {i c : Nat} (hi : i < E.length) (hc : c < 2) {u : Value} (hu : (frow E[i])[c]? = some u) : w.cell? ⟨g, o + i * 2 + c, none⟩ = some u := by
  rcases h.row with ⟨h1, _⟩ | ⟨g', o', cap', h1, _, _, h2⟩
  · cases h1
  · cases h1
    rw [Nat.add_assoc]
    exact h2 _ _ (by rw [frows_at E i c hi hc]; exact hu)
end
/-- What find tells. -/
def findR (o : Option Ent) : Value := match o with
  | some x => .tuple #[x.1, .bool true]
  | none => .tuple #[.slice none 0 0, .bool false]
theorem find_step {nm : Key} {E : List Fe} {k : Nat} (hk : k < E.length) : aget nm (E.drop k) = if E[k].1 = nm then some E[k].2 else aget nm (E.drop (k + 1)) := by
  rw [List.drop_eq_getElem_cons hk]
  by_cases h : E[k].1 = nm
  · rw [if_pos h, gpos h]
  · rw [if_neg h, gneg h]
set_option maxHeartbeats 1000000 in
theorem find_to (w : World) (A : Nat → Prop) (v : Value) (E : List Fe) (nm : Key) (h : FAt w A v E) (hl : E.length ≤ 1000000) : Calls Tryz.prog 64 #[v, stv nm] w fun e w' => e = .returned (findR (aget nm E)) ∧ w = w' := by
  have H := Lib.hid h
  obtain ⟨p, cap, rfl, hp⟩ := h.slice
  have HP := Lib.hid hp
  obtain ⟨n, hn⟩ : ∃ n, n = E.length := ⟨_, rfl⟩
  rw [← hn] at hl ⊢
  have HN := Lib.hid hn
  clear h hp hn
  go_enter Tryz.func64, Tryz.ntmps64
  go_wp2_with fail
  go_loopw [6] (fun i wr => ∃ k : Nat, k ≤ n ∧ i = .int .i64 k ∧ Hid (aget nm E = aget nm (E.drop k)) ∧ wr = w) (fun i _ => n - (intOf i).toNat)
  case atStart => exact ⟨0, Nat.zero_le _, rfl, Lib.hid rfl, rfl⟩
  case round =>
    obtain ⟨k, hk, rfl, HG, rfl⟩ := hrel
    by_cases hlt : k < n
    · have hkE : k < E.length := by rw [← HN.out]; exact hlt
      obtain ⟨g, o, rfl⟩ := HP.out (by omega)
      have e0 := FAt.at H.out hkE (c := 0) (by omega) rfl
      have e1 := FAt.at H.out hkE (c := 1) (by omega) rfl
      have hq := find_step (nm := nm) hkE
      rw [Nat.add_zero] at e0
      have HQ := Lib.hid hq
      generalize E[k] = x at *
      clear hq
      by_cases hx : x.1 = nm
      · have HX : Hid (findR (aget nm E) = .tuple #[x.2.1, .bool true]) := Lib.hid (by rw [HG.out, HQ.out, if_pos hx]; rfl)
        have hxb : (x.1 == nm) = true := by simp [hx]
        go_wp2
        go_ret2
        exact ⟨by rw [HX.out]; rfl, rfl⟩
      · have hxb : (x.1 == nm) = false := by simp [hx]
        go_wp2
        exact ⟨⟨k + 1, by omega, by simp, Lib.hid (by rw [HG.out, HQ.out, if_neg hx]), trivial⟩, by simp [intOf]; omega⟩
    · have HX : Hid (findR (aget nm E) = .tuple #[.slice none 0 0, .bool false]) := Lib.hid (by rw [HG.out, List.drop_of_length_le (by rw [← HN.out]; omega)]; rfl)
      go_wp2
      go_ret2
      exact ⟨by rw [HX.out]; rfl, rfl⟩
theorem tot_app (X Y : List Fe) : totF (fb (X ++ Y)) = totF (fb X) + totF (fb Y) := by simp [totF, asum, fb, amap]
theorem tot_step {E : List Fe} {k : Nat} (hk : k < E.length) : totF (fb (E.take (k + 1))) = totF (fb (E.take k)) + E[k].2.2.length := by
  rw [List.take_succ_eq_append_getElem hk, tot_app]
  simp [totF, asum, fb, amap]
theorem tot_le (E : List Fe) (k : Nat) : totF (fb (E.take k)) ≤ totF (fb E) := by
  conv => rhs; rw [← List.take_append_drop k E]
  rw [tot_app]
  exact Nat.le_add_right _ _
set_option maxHeartbeats 1000000 in
theorem rused_to (w : World) (A : Nat → Prop) (v : Value) (E : List Fe) (h : FAt w A v E) (hl : E.length ≤ 1000000) (ht : totF (fb E) ≤ 4000000000000000000) : Calls Tryz.prog 41 #[v] w fun e w' => e = .returned (.int .i64 (totF (fb E))) ∧ w = w' := by
  have H := Lib.hid h
  obtain ⟨p, cap, rfl, hp⟩ := h.slice
  have HP := Lib.hid hp
  have HT := Lib.hid ht
  obtain ⟨n, hn⟩ : ∃ n, n = E.length := ⟨_, rfl⟩
  rw [← hn] at hl ⊢
  have HN := Lib.hid hn
  clear h hp hn ht
  go_enter Tryz.func41, Tryz.ntmps41
  go_wp2_with fail
  go_loopw [3, 4] (fun s i wr => ∃ k t : Nat, k ≤ n ∧ i = .int .i64 k ∧ s = .int .i64 t ∧ Hid (t = totF (fb (E.take k))) ∧ wr = w) (fun _ i _ => n - (intOf i).toNat)
  case atStart => exact ⟨0, 0, Nat.zero_le _, rfl, rfl, Lib.hid rfl, rfl⟩
  case round =>
    obtain ⟨k, t, hk, rfl, rfl, HG, rfl⟩ := hrel
    by_cases hlt : k < n
    · have hkE : k < E.length := by rw [← HN.out]; exact hlt
      obtain ⟨g, o, rfl⟩ := HP.out (by omega)
      have e1 := FAt.at H.out hkE (c := 1) (by omega) rfl
      obtain ⟨pb, cb, hb⟩ := len_val (H.out.bod E[k] (List.getElem_mem hkE)).seen
      rw [hb] at e1
      have hts := tot_step hkE
      have htl := tot_le E (k + 1)
      rw [hts, ← HG.out] at htl
      rw [← HG.out] at hts
      have HTS := Lib.hid hts
      have h63 := HT.out
      generalize E[k].2.2.length = q at *
      have hq : t + q ≤ 4000000000000000000 := by omega
      obtain ⟨z, hz⟩ : ∃ z : Nat, z = t + q := ⟨_, rfl⟩
      have hz63 : IntKind.i64.wrap ((t : Int) + q) = z := by rw [hz]; exact IntWalk.i64_in _ (by omega)
      have HZ := Lib.hid hz
      clear hts hb htl h63 hz hq
      go_wp2
      exact ⟨⟨k + 1, z, by omega, by simp, rfl, Lib.hid (by rw [HTS.out, HZ.out]), trivial⟩, by simp [intOf]; omega⟩
    · have HX : Hid (t = totF (fb E)) := Lib.hid (by rw [HG.out, List.take_of_length_le (by rw [← HN.out]; omega)])
      go_wp2
      go_ret
      exact ⟨by rw [HX.out]; rfl, rfl⟩
theorem finfo : (Tryz.prog.info? 113).map (fun i => (i.zero, i.size, i.bytes)) = some (some (.agg #[.string ⟨#[]⟩, .slice none 0 0]), 3 - 1, 40) := by kernel_rfl
theorem FAt.own {w : World} {A : Nat → Prop} {B : Nat} {v : Value} {D : List Fe} (h : w.ownsRow B 113 2 v D.length (frows D)) (hA : ∀ k, B ≤ k → A k) (hb : ∀ e ∈ D, BAt w A e.2.1 e.2.2) : FAt w A v D := by
  refine ⟨?_, hb⟩
  rcases h.2 with ⟨h1, h2⟩ | ⟨g, cap', cur, h1, _, _, h3, _⟩
  · exact .inl ⟨h1, List.length_eq_zero_iff.1 h2⟩
  · subst h1
    refine .inr ⟨g, 0, cap', rfl, h3, fun _ => hA _ (h.lt g rfl).1, fun j u hj => ?_⟩
    have := h.cells (g := g) rfl j u hj
    rwa [Addr.add_lit] at this
theorem del_step {nm : Key} {E : List Fe} {k : Nat} (hk : k < E.length) : adel nm (E.take (k + 1)) = if E[k].1 = nm then adel nm (E.take k) else adel nm (E.take k) ++ [E[k]] := by
  rw [List.take_succ_eq_append_getElem hk]
  unfold adel
  rw [List.filter_append]
  by_cases h : E[k].1 = nm
  · rw [if_pos h]; simp [h]
  · rw [if_neg h]; simp [h]
theorem del_len (nm : Key) (E : List Fe) : (adel nm E).length ≤ E.length := List.length_filter_le _ _
structure DrI (w wr : World) (A : Nat → Prop) (v : Value) (D : List Fe) : Prop where
  own : wr.ownsRow w.heap.size 113 2 v D.length (frows D)
  bel : Below w.heap.size w wr
set_option maxHeartbeats 2000000 in
theorem rdrop_to (w : World) (A : Nat → Prop) (v : Value) (E : List Fe) (nm : Key) (h : FAt w A v E) (hl : E.length ≤ 1000000) : Calls Tryz.prog 66 #[v, stv nm] w fun e w' => ∃ v', e = .returned v' ∧ FAt w' (fun k => A k ∨ w.heap.size ≤ k) v' (adel nm E) ∧ Below w.heap.size w w' := by
  obtain ⟨i0, hi0, hz0, hz1, hz2⟩ := info_parts finfo
  have H := Lib.hid h
  obtain ⟨p, cap, rfl, hp⟩ := h.slice
  have HP := Lib.hid hp
  obtain ⟨n, hn⟩ : ∃ n, n = E.length := ⟨_, rfl⟩
  rw [← hn] at hl ⊢
  have HN := Lib.hid hn
  clear h hp hn
  go_enter Tryz.func66, Tryz.ntmps66
  go_wp2_with fail
  go_loopw [5, 6] (fun s i wr => ∃ (k m c : Nat) (q : Option Addr), k ≤ n ∧ m ≤ k ∧ i = .int .i64 k ∧ s = .slice q m c ∧ Hid (m = (adel nm (E.take k)).length) ∧ Hid (DrI w wr A (.slice q m c) (adel nm (E.take k)))) (fun _ i _ => n - (intOf i).toNat)
  case atStart => exact ⟨0, 0, 0, none, Nat.zero_le _, Nat.le_refl _, rfl, rfl, Lib.hid rfl, Lib.hid ⟨World.ownsRow_nil _ _ _ _, Below.refl _ _⟩⟩
  case round =>
    obtain ⟨k, m, c, q, hk, hmk, rfl, rfl, HM, HI⟩ := hrel
    by_cases hlt : k < n
    · have hkE : k < E.length := by rw [← HN.out]; exact hlt
      obtain ⟨g, o, rfl⟩ := HP.out (by omega)
      have HR := Lib.hid (H.out.kb HI.out.bel)
      have e0 := FAt.at HR.out hkE (c := 0) (by omega) rfl
      have e1 := FAt.at HR.out hkE (c := 1) (by omega) rfl
      have HQ := Lib.hid (del_step (nm := nm) hkE)
      have HBK := Lib.hid ((HR.out.bod E[k] (List.getElem_mem hkE)))
      obtain ⟨pb, cb, hb⟩ := len_val HBK.out.seen
      rw [Nat.add_zero] at e0
      rw [hb] at e1
      obtain ⟨x, hx⟩ : ∃ x, x = E[k] := ⟨_, rfl⟩
      have hfx : frow x = [stv x.1, .slice pb x.2.2.length cb] := by rw [frow, hx, hb]
      rw [← hx] at e0 e1 HQ
      have HFX := Lib.hid hfx
      clear hb hx hfx
      generalize x.2.2.length = lq at *
      by_cases hx : x.1 = nm
      · have hxb : (x.1 == nm) = true := by simp [hx]
        rw [if_pos hx] at HQ
        go_wp2
        exact ⟨⟨k + 1, m, c, q, by omega, by omega, by simp, rfl, Lib.hid (by rw [HQ.out]; exact HM.out), Lib.hid (by rw [HQ.out]; exact HI.out)⟩, by simp [intOf]; omega⟩
      · have hxb : (x.1 == nm) = false := by simp [hx]
        rw [if_neg hx] at HQ
        have HN2 : Hid (∀ j v, ([stv x.1, .slice pb lq cb] : List Value)[j]? = some v → (wr.alloc (.cells #[stv x.1, .slice pb lq cb] 113)).cell? ((⟨wr.heap.size, 0, none⟩ : Addr).add j) = some v) := Lib.hid (World.news_of_block (cs := #[stv x.1, .slice pb lq cb]) (t := 113) (fr := (0, 0)) (heap_alloc_new wr _))
        have HO := Lib.hid (HI.out.own.alloc (.cells #[stv x.1, .slice pb lq cb] 113))
        rw [← HM.out] at HO
        have HB : Hid (w.heap.size ≤ (wr.alloc (.cells #[stv x.1, .slice pb lq cb] 113)).heap.size) := Lib.hid (by have := HI.out.bel.size; simp; omega)
        go_wp2_with (refine wpList_append_lies _ (by rfl) _ _ _ (by rfl) w.heap.size 113 i0 _ 2 40 Tryz.underlying57 hi0 hz0 hz1 hz2 rfl (by omega) (.slice q m c) m (frows (adel nm (E.take k))) (by rfl) HO.out ⟨wr.heap.size, 0, none⟩ 1 1 [stv x.1, .slice pb lq cb] (by rfl) (by rfl) HN2.out (by simp [Value.oneCell']) (by decide) (by unfold maxLen; omega) (by omega) HB.out _ rfl ?_; intro gg cc w4 own4 grow4 hat4 hlt4)
        have o4 := (Only.refl (fun j => (Value.slice q m c).ownBlock = some j) _).grown grow4 (fun j _ e => e)
        have HB4 : Hid (Below w.heap.size w w4) := Lib.hid ((HI.out.bel.alloc HI.out.bel.size _).trans (o4.below HB.out (fun j hj => (HI.out.own.lt j hj).1)))
        have own5 : Hid (w4.ownsRow w.heap.size 113 2 (.slice (some ⟨gg, 0, none⟩) (m + 1) cc) (adel nm (E.take (k + 1))).length (frows (adel nm (E.take (k + 1))))) := Lib.hid (by
          rw [HQ.out, frows_app, frows_one, HFX.out, List.length_append, ← HM.out]
          exact own4)
        clear o4 own4 grow4 hat4 hlt4
        exact ⟨⟨k + 1, m + 1, cc, some ⟨gg, 0, none⟩, by omega, by omega, by simp, rfl, Lib.hid (by rw [HQ.out, List.length_append, ← HM.out]; rfl), Lib.hid ⟨own5.out, HB4.out⟩⟩, by simp [intOf]; omega⟩
    · have HX : Hid (FAt wr (fun k => A k ∨ w.heap.size ≤ k) (.slice q m c) (adel nm E)) := Lib.hid (by
        have h1 := HI.out.own
        rw [List.take_of_length_le (by rw [← HN.out]; omega)] at h1
        exact FAt.own h1 (fun k hk => .inr hk) (fun e he => ((H.out.bod e ((adel_mem _ _ _).1 he).1).kb HI.out.bel).mono (fun k hk => .inl hk)))
      go_wp2
      go_ret
      exact ⟨_, rfl, HX.out, HI.out.bel⟩
end Go.Proofs.YtfneadlknieppaaGreatDoor
namespace Go.Proofs.YtfneadlknieppaaGreatDoor
open Go.RowKit
open Go.Maps

theorem ains_at {α : Type} (x : Key × α) : ∀ (E : List (Key × α)) (k : Nat) (_ : k ≤ E.length) (_ : ∀ j (hj : j < E.length), j < k → bytesBefore E[j].1 x.1 = true) (_ : ∀ hk : k < E.length, bytesBefore E[k].1 x.1 = false) (_ : ∀ y ∈ E, y.1 ≠ x.1), ains x E = E.take k ++ x :: E.drop k
  | [], 0, _, _, _, _ => rfl
  | [], _ + 1, h, _, _, _ => absurd h (by simp)
  | y :: r, 0, _, _, hk, hne => by
    have h0 : bytesBefore y.1 x.1 = false := hk (by simp)
    have h1 := hne y List.mem_cons_self
    rcases bb_total y.1 x.1 with h | h | h
    · rw [h0] at h; cases h
    · exact absurd h h1
    · rw [ains, if_pos h]; rfl
  | y :: r, k + 1, h, hj, hk, hne => by
    have h0 : bytesBefore y.1 x.1 = true := hj 0 (by simp) (by omega)
    have h1 : ¬ bytesBefore x.1 y.1 = true := fun e => by have := bb_trans _ _ _ h0 e; rw [bb_irrefl] at this; cases this
    rw [ains, if_neg h1, ains_at x r k (by simpa using h) (fun j hjl hjk => by have := hj (j + 1) (by simpa using hjl) (by omega); simpa using this) (fun hkl => by have := hk (by simpa using hkl); simpa using this) (fun z hz => hne z (List.mem_cons_of_mem _ hz))]
    rfl
theorem aput_at {nm : Key} {x : Ent} {E : List Fe} {k : Nat} (hk : k ≤ (adel nm E).length) (h1 : ∀ j (hj : j < (adel nm E).length), j < k → bytesBefore (adel nm E)[j].1 nm = true) (h2 : ∀ hk : k < (adel nm E).length, bytesBefore (adel nm E)[k].1 nm = false) : aput nm x E = (adel nm E).take k ++ (nm, x) :: (adel nm E).drop k :=
  ains_at (nm, x) (adel nm E) k hk h1 h2 (fun _ hy => ((adel_mem _ _ _).1 hy).2)
/-- A slice's beginning. -/
theorem BAt.take {w : World} {A : Nat → Prop} {p : Option Addr} {cap : Nat} {l : List Int} (h : BAt w A (.slice p l.length cap) l) (r : Nat) (hr : r ≤ l.length) : BAt w A (.slice p r cap) (l.take r) := by
  have hl : (l.take r).length = r := by rw [List.length_take]; omega
  refine ⟨?_, fun hn k hk => h.blk (fun e => hn (by rw [e, List.take_nil])) k (by cases p <;> exact hk)⟩
  rcases h.seenr with ⟨h1, h2⟩ | ⟨g, o, cap', h1, hc, hu⟩
  · simp at h1
    obtain ⟨rfl, _, rfl⟩ := h1
    subst h2
    obtain rfl : r = 0 := by simpa using hr
    exact .inl ⟨rfl, rfl⟩
  · simp at h1
    obtain ⟨rfl, rfl⟩ := h1
    refine .inr ⟨g, o, cap, by rw [hl], by omega, fun j u hj => ?_⟩
    refine hu j u ?_
    rw [us, List.map_take, List.getElem?_take] at hj
    split at hj
    · exact hj
    · cases hj
theorem BAt.own {w : World} {A : Nat → Prop} {B : Nat} {v : Value} {l : List Int} (h : BOwn w B v l) (hA : ∀ k, B ≤ k → A k) : BAt w A v l := ⟨SeenR.own h, fun _ k hk => hA k (h.lt k hk).1⟩
theorem frows_cell {w : World} {A : Nat → Prop} {E : List Fe} (h : ∀ e ∈ E, BAt w A e.2.1 e.2.2) : ∀ u ∈ frows E, u.oneCell' = true := by
  induction E with
  | nil => intro u hu; cases hu
  | cons e r ih =>
    intro u hu
    rw [frows] at hu
    rcases List.mem_append.1 hu with hu | hu
    · obtain ⟨p, c, hv⟩ := len_val (h e List.mem_cons_self).seen
      rw [frow, hv] at hu
      simp only [List.mem_cons, List.not_mem_nil, or_false] at hu
      rcases hu with rfl | rfl <;> rfl
    · exact ih (fun e he => h e (List.mem_cons_of_mem _ he)) u hu
theorem fhead (g o n cap k : Nat) (hk : k ≤ cap) (W : World) : (Instr.slice 57 (.slice (some ⟨g, o, none⟩) n cap) none (some (.int .i64 k)) none).run Tryz.prog W = .ok (.slice (some ⟨g, o, none⟩) k cap) W := by
  have h1 : (k : Int) ≤ (cap : Int) := by omega
  have h2 : (0 : Int) ≤ (k : Int) := by omega
  simp [Instr.slice, run_underlying Tryz.underlying57, go_sem, h1, h2]
theorem ftail {W : World} {A : Nat → Prop} {g o n cap : Nat} {D : List Fe} (h : FAt W A (.slice (some ⟨g, o, none⟩) n cap) D) (hn : n = D.length) {k : Nat} (hk : k ≤ n) :
    ∃ ad c, (∀ W' : World, (Instr.slice 57 (.slice (some ⟨g, o, none⟩) n cap) (some (.int .i64 k)) none none).run Tryz.prog W' = .ok (.slice (some ad) (n - k) c) W') ∧ ∀ j u, (frows (D.drop k))[j]? = some u → W.cell? (ad.add j) = some u := by
  have h1 : (k : Int) ≤ (n : Int) := by omega
  have h2 : (0 : Int) ≤ (k : Int) := by omega
  rcases h.row with ⟨h0, _⟩ | ⟨g', o', cap', h0, hc, _, hu⟩
  · cases h0
  · simp at h0
    obtain ⟨⟨rfl, rfl⟩, _, rfl⟩ := h0
    by_cases hcp : cap = k
    · refine ⟨⟨g, o, none⟩, cap - k, fun W' => ?_, fun j u hj => ?_⟩
      · simp [Instr.slice, run_underlying Tryz.underlying57, go_sem, h1, h2, hcp]
      · rw [List.drop_of_length_le (by omega)] at hj; simp [frows] at hj
    · refine ⟨⟨g, o + k * 2, none⟩, cap - k, fun W' => ?_, fun j u hj => ?_⟩
      · simp [Instr.slice, run_underlying Tryz.underlying57, go_sem, h1, h2, hcp]
      · rw [Addr.add_lit, Nat.add_assoc]
        exact hu _ _ (by rw [frows_drop, List.getElem?_drop] at hj; exact hj)
theorem fhead_at {W : World} {A : Nat → Prop} {g o n cap : Nat} {D : List Fe} (h : FAt W A (.slice (some ⟨g, o, none⟩) n cap) D) (k : Nat) : ∀ j u, (frows (D.take k))[j]? = some u → W.cell? ((⟨g, o, none⟩ : Addr).add j) = some u := by
  intro j u hj
  rcases h.row with ⟨h0, _⟩ | ⟨g', o', cap', h0, hc, _, hu⟩
  · cases h0
  · simp at h0
    obtain ⟨⟨rfl, rfl⟩, _, rfl⟩ := h0
    rw [Addr.add_lit]
    refine hu _ _ ?_
    rw [frows_take, List.getElem?_take] at hj
    split at hj
    · exact hj
    · cases hj
theorem cap_of {W : World} {A : Nat → Prop} {p : Option Addr} {n cap : Nat} {D : List Fe} (h : FAt W A (.slice p n cap) D) (hn : n = D.length) : n ≤ cap := by
  rcases h.row with ⟨h0, h1⟩ | ⟨g', o', cap', h0, hc, _, hu⟩
  · simp at h0; omega
  · simp at h0; omega
theorem fnone_head (W : World) : (Instr.slice 57 (.slice none 0 0) none (some (.int .i64 0)) none).run Tryz.prog W = .ok (.slice none 0 0) W := by
  simp [Instr.slice, run_underlying Tryz.underlying57, go_sem]
theorem fnone_tail (W : World) : (Instr.slice 57 (.slice none 0 0) (some (.int .i64 0)) none none).run Tryz.prog W = .ok (.slice none 0 0) W := by
  simp [Instr.slice, run_underlying Tryz.underlying57, go_sem]
end Go.Proofs.YtfneadlknieppaaGreatDoor
namespace Go.Proofs.YtfneadlknieppaaGreatDoor
open Go.RowKit
open Go.Maps

/-- What holds in put behind drop. -/
structure PS (w wr : World) (A : Nat → Prop) (v : Value) (D : List Fe) (nm : Key) (u : Value) : Prop where
  fat : FAt wr A v D
  bel : Below w.heap.size w wr
  box : wr.heap[w.heap.size]? = some (.cells #[stv nm, u] 113 (0, 0))
theorem PS.kb {w wr wx : World} {A : Nat → Prop} {v : Value} {D : List Fe} {nm : Key} {u : Value} (h : PS w wr A v D nm u) (hb : Below wr.heap.size wr wx) : PS w wx A v D nm u :=
  ⟨h.fat.kb hb, h.bel.trans (hb.mono h.bel.size), (hb.block _ (Array.getElem?_eq_some_iff.1 h.box).1).trans h.box⟩
theorem below_dn {n m : Nat} {w w' : World} (h : Below n w w') : Below n w (w'.drewN m) := ⟨h.os, h.tape, h.output, h.size, h.block⟩
theorem PS.drn {w wr : World} {A : Nat → Prop} {v : Value} {D : List Fe} {nm : Key} {u : Value} (h : PS w wr A v D nm u) (q : Nat) : PS w (wr.drewN q) A v D nm u :=
  h.kb (below_dn (m := q) (Below.refl _ wr))
theorem put_fat {w W w7 : World} {A A1 : Nat → Prop} {vD v7 u : Value} {D : List Fe} {nm : Key} {l : List Int} {k m : Nat} {xs : List Value} (h : w7.ownsRow W.heap.size 113 2 v7 m xs) (hs : PS w W A1 vD D nm u) (hb : Below W.heap.size W w7) (hu : BAt w A u l)
    (hA : ∀ k, A1 k → A k ∨ w.heap.size ≤ k) (hm : m = (D.take k ++ (nm, u, l) :: D.drop k).length) (hx : xs = frows (D.take k ++ (nm, u, l) :: D.drop k)) : FAt w7 (fun k => A k ∨ w.heap.size ≤ k) v7 (D.take k ++ (nm, u, l) :: D.drop k) := by
  subst hm hx
  refine FAt.own h (fun k hk => .inr (Nat.le_trans hs.bel.size hk)) (fun e he => ?_)
  have h7 : Below w.heap.size w w7 := hs.bel.trans (hb.mono hs.bel.size)
  have old : ∀ e ∈ D, BAt w7 (fun k => A k ∨ w.heap.size ≤ k) e.2.1 e.2.2 := fun e he => ((hs.fat.bod e he).kb hb).mono hA
  rcases List.mem_append.1 he with he | he
  · exact old e (List.mem_of_mem_take he)
  · rcases List.mem_cons.1 he with rfl | he
    · exact (hu.kb h7).mono (fun k hk => .inl hk)
    · exact old e (List.mem_of_mem_drop he)
set_option maxRecDepth 20000 in
set_option maxHeartbeats 2000000 in
theorem rput_to (w : World) (A : Nat → Prop) (v : Value) (E : List Fe) (nm : Key) (u : Value) (l : List Int) (h : FAt w A v E) (hl : E.length ≤ 1000000) (hb : BAt w A u l) :
    Calls Tryz.prog 65 #[v, .agg #[stv nm, u]] w fun e w' => ∃ v', e = .returned v' ∧ FAt w' (fun k => A k ∨ w.heap.size ≤ k) v' (aput nm (u, l) E) ∧ Below w.heap.size w w' := by
  obtain ⟨i0, hi0, hz0, hz1, hz2⟩ := info_parts finfo
  obtain ⟨pu, cu, rfl⟩ := len_val hb.seen
  obtain ⟨p0, cap0, rfl, _⟩ := h.slice
  have HB := Lib.hid hb
  have H0 := Lib.hid h
  clear h hb
  go_enter Tryz.func65, Tryz.ntmps65
  go_wp2_with fail
  have B0 : Hid (Below w.heap.size w (w.alloc (.cells #[stv nm, .slice pu l.length cu] 113))) := Lib.hid ((Below.refl _ w).alloc (Nat.le_refl _) _)
  have X0 : Hid ((w.alloc (.cells #[stv nm, .slice pu l.length cu] 113)).heap[w.heap.size]? = some (.cells #[stv nm, .slice pu l.length cu] 113 (0, 0))) := Lib.hid (heap_alloc_last w _)
  generalize w.alloc (.cells #[stv nm, .slice pu l.length cu] 113) = W0 at *
  have HD0 := Lib.hid (rdrop_to W0 A _ E nm (H0.out.kb B0.out) hl)
  refine HD0.out.mono ?_
  rintro e w1 ⟨v1, rfl, h1, b1⟩
  obtain ⟨D, hD⟩ : ∃ D, D = adel nm E := ⟨_, rfl⟩
  obtain ⟨A1, hA1⟩ : ∃ A1 : Nat → Prop, A1 = fun k => A k ∨ W0.heap.size ≤ k := ⟨_, rfl⟩
  have HDL : D.length ≤ 1000000 := by rw [hD]; exact Nat.le_trans (del_len _ _) hl
  rw [← hD, ← hA1] at h1
  obtain ⟨p, cap, rfl, hp⟩ := h1.slice
  have HP := Lib.hid hp
  have HA1 : Hid (∀ k, A1 k → A k ∨ w.heap.size ≤ k) := Lib.hid (fun k hk => by rw [hA1] at hk; exact hk.imp id (fun e => Nat.le_trans B0.out.size e))
  have HAA : Hid (∀ k, A k → A1 k) := Lib.hid (fun k hk => by rw [hA1]; exact .inl hk)
  have HDD := Lib.hid hD
  have S1 : Hid (PS w w1 A1 (.slice p D.length cap) D nm (.slice pu l.length cu)) := Lib.hid ⟨h1, B0.out.trans (b1.mono B0.out.size), (b1.block _ (Array.getElem?_eq_some_iff.1 X0.out).1).trans X0.out⟩
  obtain ⟨n, hn⟩ : ∃ n, n = D.length := ⟨_, rfl⟩
  rw [← hn] at HDL S1 HP ⊢
  have HN := Lib.hid hn
  clear h1 b1 hp hD hA1 HD0 H0 B0 X0 hn
  go_wp2_with fail
  go_loopw [5] (fun i wr => ∃ k : Nat, k ≤ n ∧ i = .int .i64 k ∧ Hid (∀ j (hj : j < D.length), j < k → bytesBefore D[j].1 nm = true) ∧ Hid (PS w wr A1 (.slice p n cap) D nm (.slice pu l.length cu))) (fun i _ => n - (intOf i).toNat)
  case atStart => exact ⟨0, Nat.zero_le _, rfl, Lib.hid (fun _ _ h => absurd h (Nat.not_lt_zero _)), S1⟩
  case round =>
    obtain ⟨k, hk, rfl, HK, HS⟩ := hrel
    by_cases hlt : k < n
    · have hkE : k < D.length := by rw [← HN.out]; exact hlt
      obtain ⟨g, o, rfl⟩ := HP.out (by omega)
      have e0 := FAt.at HS.out.fat hkE (c := 0) (by omega) rfl
      have eb : wr.cell? ⟨w.heap.size, 0, none⟩ = some (stv nm) := by rw [cell_of_row wr _ 0 _ _ _ HS.out.box]; rfl
      rw [Nat.add_zero] at e0
      have hltd : decide ((k : Int) < n) = true := by simp [hlt]
      by_cases hb : bytesBefore D[k].1 nm = true
      · have hbb : Op.bytesLess D[k].1 nm = true := by rw [less_before]; exact hb
        have HK1 : Hid (∀ j (hj : j < D.length), j < k + 1 → bytesBefore D[j].1 nm = true) := Lib.hid (fun j hj hjk => by
          rcases Nat.lt_or_ge j k with h | h
          · exact HK.out j hj h
          · obtain rfl : j = k := by omega
            exact hb)
        generalize D[k].1 = x at *
        clear hb
        go_wp2_with fail
        go_quiet (fail)
        have HSW := Lib.hid (HS.out.drn nq)
        clear HS e0 eb
        generalize wr.drewN nq = W at *
        go_wp2_with fail
        exact ⟨⟨k + 1, by omega, by simp, HK1, HSW⟩, by simp [intOf]; omega⟩
      · have hb' : bytesBefore D[k].1 nm = false := by simpa using hb
        have hbb : Op.bytesLess D[k].1 nm = false := by rw [less_before]; exact hb'
        have HPUT : Hid (aput nm (Value.slice pu l.length cu, l) E = D.take k ++ (nm, Value.slice pu l.length cu, l) :: D.drop k) := Lib.hid (by
          have h1 := HDD.out
          subst h1
          exact aput_at (by omega) HK.out (fun _ => hb'))
        generalize D[k].1 = x at *
        clear hb hb'
        go_wp2_with fail
        go_quiet (fail)
        have HSW := Lib.hid (HS.out.drn nq)
        clear HS e0 eb
        generalize wr.drewN nq = W at *
        have hkn : k ≤ D.length := by rw [← HN.out]; exact hk
        obtain ⟨ad9, c9, hsl, hce⟩ := ftail HSW.out.fat HN.out hk
        have hcap : k ≤ cap := Nat.le_trans hk (cap_of HSW.out.fat HN.out)
        have hhd := fhead g o n cap k hcap
        have hha := fhead_at HSW.out.fat k
        have hown := World.ownsRow_made (base := W.heap.size) (e := 113) (size := 2) W #[] 0 (Nat.le_refl _) (by decide) rfl
        have hn1 : Hid (∀ j u, (frows (D.take k))[j]? = some u → (W.alloc (.cells #[] 113)).cell? ((⟨g, o, none⟩ : Addr).add j) = some u) := Lib.hid fun j u hj => by
          have h1 := hha j u hj
          have h2 := World.block_lt_of_cell? W _ h1
          rw [World.cell?_of_block (w := W) (Below.heap_alloc W _ _ h2)]; exact h1
        have HTL : Hid ((frows (D.take k)).length = k * 2) := Lib.hid (by rw [frows_length, List.length_take]; omega)
        have HDL : Hid ((frows (D.drop k)).length = (n - k) * 2) := Lib.hid (by rw [frows_length, List.length_drop, HN.out])
        have HN3 : Hid (∀ W' : World, Below W.heap.size W W' → ∀ j u, (frows (D.drop k))[j]? = some u → W'.cell? (ad9.add j) = some u) := Lib.hid fun W' hW j u hj => by
          have h1 := hce j u hj
          have h2 := World.block_lt_of_cell? W _ h1
          rw [World.cell?_of_block (w := W) (hW.block _ h2)]; exact h1
        have OT : Hid (∀ u ∈ frows (D.take k), u.oneCell' = true) := Lib.hid (frows_cell (fun e he => HSW.out.fat.bod e (List.mem_of_mem_take he)))
        have OD : Hid (∀ u ∈ frows (D.drop k), u.oneCell' = true) := Lib.hid (frows_cell (fun e he => HSW.out.fat.bod e (List.mem_of_mem_drop he)))
        have M5 : Hid (0 + k ≤ maxLen ∧ (0 + k) * 40 ≤ 140737488355328) := Lib.hid (by unfold maxLen; omega)
        have M6 : Hid (0 + k + 1 ≤ maxLen ∧ (0 + k + 1) * 40 ≤ 140737488355328) := Lib.hid (by unfold maxLen; omega)
        have M7 : Hid (k + 1 + (n - k) ≤ maxLen ∧ (k + 1 + (n - k)) * 40 ≤ 140737488355328) := Lib.hid (by unfold maxLen; omega)
        have HXB : Hid (w.heap.size < W.heap.size) := Lib.hid (Array.getElem?_eq_some_iff.1 HSW.out.box).1
        clear hce hha hcap hkn
        have hs9 := hsl
        clear hsl
        go_wp2_with (first
          | (at_builtin; refine wpList_append_own _ (by rfl) (.tmp 36) (.tmp 39) _ (by rfl) W.heap.size 113 i0 _ 2 40 Tryz.underlying57 hi0 hz0 hz1 hz2 rfl (by omega) _ _ _ (by rfl) O6.out ad9 (n - k) _ (frows (D.drop k)) (by rfl) HDL.out (HN3.out w6 S6.out) OD.out M7.out.1 M7.out.2 S6.out.size ?_; intro v7 w7 own7 grow7 _; have O7 := Lib.hid own7; have S7 : Hid (Below W.heap.size W w7) := Lib.hid (S6.out.grown grow7 S6.out.size (fun k hk => (O6.out.lt k hk).1)); clear own7 grow7)
          | (at_builtin; refine wpList_append_lies _ (by rfl) (.tmp 32) (.tmp 34) _ (by rfl) W.heap.size 113 i0 _ 2 40 Tryz.underlying57 hi0 hz0 hz1 hz2 rfl (by omega) v5 (0 + k) ([] ++ frows (D.take k)) (by rfl) (O5.out.alloc _) ⟨w5.heap.size, 0, none⟩ 1 1 [stv nm, .slice pu l.length cu] (by rfl) (by rfl) (World.news_of_block (cs := #[stv nm, .slice pu l.length cu]) (t := 113) (fr := (0, 0)) (heap_alloc_new w5 _)) (by simp [Value.oneCell']) (by decide) M6.out.1 M6.out.2 (Nat.le_trans S5.out.size (by simp)) (w5.heap.size + 1) (by simp) ?_; intro gg cap6 w6 own6 grow6 _ _; simp only [Nat.zero_add, List.nil_append] at own6; have O6 := Lib.hid own6; have S6 : Hid (Below W.heap.size W w6) := Lib.hid ((S5.out.alloc S5.out.size _).grown grow6 (Nat.le_trans S5.out.size (by simp)) (fun k hk => (O5.out.lt k hk).1)); clear own6 grow6)
          | (at_builtin; refine wpList_append_own _ (by rfl) (.tmp 27) (.tmp 30) _ (by rfl) W.heap.size 113 i0 _ 2 40 Tryz.underlying57 hi0 hz0 hz1 hz2 rfl (by omega) (.slice (some ⟨W.heap.size, 0, none⟩) 0 0) 0 [] (by rfl) hown ⟨g, o, none⟩ k _ (frows (D.take k)) (by rfl) HTL.out hn1.out OT.out M5.out.1 M5.out.2 (by simp) ?_; intro v5 w5 own5 grow5 _; have O5 := Lib.hid own5; have S5 : Hid (Below W.heap.size W w5) := Lib.hid (((Below.refl _ _).alloc (Nat.le_refl _) _).grown grow5 (by simp) (by intro k hk; cases hk; exact Nat.le_refl _)); have hx5 : w5.heap[w.heap.size]? = some (.cells #[stv nm, .slice pu l.length cu] 113 (0, 0)) := (S5.out.block _ HXB.out).trans HSW.out.box; have x50 : w5.cell? ⟨w.heap.size, 0, none⟩ = some (stv nm) := (by rw [cell_of_row w5 _ 0 _ _ _ hx5]; rfl); have x51 : w5.cell? ⟨w.heap.size, 1, none⟩ = some (.slice pu l.length cu) := (by rw [cell_of_row w5 _ 1 _ _ _ hx5]; rfl); clear own5 grow5 hx5))
        go_ret
        refine ⟨_, rfl, ?_, HSW.out.bel.trans (S7.out.mono HSW.out.bel.size)⟩
        rw [HPUT.out]
        exact put_fat O7.out HSW.out S7.out HB.out HA1.out (by rw [List.length_append, List.length_cons, List.length_take, List.length_drop, ← HN.out]; omega) (by rw [frows_app]; simp [frows, frow])
    · have HKN : Hid (k = n) := Lib.hid (by omega)
      have hkd : decide ((k : Int) < n) = false := by simp [hlt]
      have HPUT : Hid (aput nm (Value.slice pu l.length cu, l) E = D.take k ++ (nm, Value.slice pu l.length cu, l) :: D.drop k) := Lib.hid (by
        have h1 := HDD.out
        have h2 := HN.out
        subst h1
        exact aput_at (by omega) HK.out (fun h => absurd h (by omega)))
      go_wp2_with fail
      go_quiet (fail)
      have HSW := Lib.hid (HS.out.drn nq)
      clear HS
      generalize wr.drewN nq = W at *
      rcases HSW.out.fat.row with ⟨h1, h2⟩ | ⟨g, o, cap', h1, _⟩
      · simp at h1
        obtain ⟨rfl, rfl, rfl⟩ := h1
        obtain rfl : k = 0 := HKN.out
        clear h2
        have hown := World.ownsRow_made (base := W.heap.size) (e := 113) (size := 2) W #[] 0 (Nat.le_refl _) (by decide) rfl
        have HXB : Hid (w.heap.size < W.heap.size) := Lib.hid (Array.getElem?_eq_some_iff.1 HSW.out.box).1
        have hx5 : (W.alloc (.cells #[] 113)).heap[w.heap.size]? = some (.cells #[stv nm, .slice pu l.length cu] 113 (0, 0)) := (Below.heap_alloc W _ _ HXB.out).trans HSW.out.box
        have x50 : (W.alloc (.cells #[] 113)).cell? ⟨w.heap.size, 0, none⟩ = some (stv nm) := (by rw [cell_of_row _ _ 0 _ _ _ hx5]; rfl)
        have x51 : (W.alloc (.cells #[] 113)).cell? ⟨w.heap.size, 1, none⟩ = some (.slice pu l.length cu) := (by rw [cell_of_row _ _ 1 _ _ _ hx5]; rfl)
        clear hx5
        have HN6 : Hid (∀ j v, ([stv nm, .slice pu l.length cu] : List Value)[j]? = some v → ((W.alloc (.cells #[] 113)).alloc (.cells #[stv nm, .slice pu l.length cu] 113)).cell? ((⟨W.heap.size + 1, 0, none⟩ : Addr).add j) = some v) := Lib.hid (by
          have h9 : (W.alloc (.cells #[] 113)).heap.size = W.heap.size + 1 := by simp
          rw [← h9]
          exact World.news_of_block (cs := #[stv nm, .slice pu l.length cu]) (t := 113) (fr := (0, 0)) (heap_alloc_new (W.alloc (.cells #[] 113)) _))
        have hhd := fnone_head
        have htl := fnone_tail
        go_wp2_with (first
          | (at_builtin; refine wpList_append_own_none (by rfl) (.tmp 36) (.tmp 39) _ (by rfl) W.heap.size 113 i0 2 Tryz.underlying57 hi0 _ _ _ (by rfl) O6.out (by rfl) ?_)
          | (at_builtin; refine wpList_append_lies _ (by rfl) (.tmp 32) (.tmp 34) _ (by rfl) W.heap.size 113 i0 _ 2 40 Tryz.underlying57 hi0 hz0 hz1 hz2 rfl (by omega) (.slice (some ⟨W.heap.size, 0, none⟩) 0 0) 0 [] (by rfl) (hown.alloc _) ⟨W.heap.size + 1, 0, none⟩ 1 1 [stv nm, .slice pu l.length cu] (by rfl) (by rfl) HN6.out (by simp [Value.oneCell']) (by decide) (by decide) (by decide) (by simp; omega) (W.heap.size + 1 + 1) (by simp) ?_; intro gg cap6 w6 own6 grow6 _ _; simp only [Nat.zero_add, List.nil_append] at own6; have O6 := Lib.hid own6; have S6 : Hid (Below W.heap.size W w6) := Lib.hid ((((Below.refl _ _).alloc (Nat.le_refl _) _).alloc (by simp) _).grown grow6 (by simp; omega) (by intro k hk; cases hk; exact Nat.le_refl _)); clear own6 grow6))
        go_ret
        refine ⟨_, rfl, ?_, HSW.out.bel.trans (S6.out.mono HSW.out.bel.size)⟩
        rw [HPUT.out]
        have hD0 : D = [] := List.eq_nil_of_length_eq_zero HN.out.symm
        exact put_fat O6.out HSW.out S6.out HB.out HA1.out (by subst hD0; rfl) (by subst hD0; rfl)
      · simp at h1
        obtain ⟨rfl, h9, rfl⟩ := h1
        clear h9
        have hkn : k ≤ D.length := by rw [← HN.out]; exact hk
        obtain ⟨ad9, c9, hsl, hce⟩ := ftail HSW.out.fat HN.out hk
        have hcap : k ≤ cap := Nat.le_trans hk (cap_of HSW.out.fat HN.out)
        have hhd := fhead g o n cap k hcap
        have hha := fhead_at HSW.out.fat k
        have hown := World.ownsRow_made (base := W.heap.size) (e := 113) (size := 2) W #[] 0 (Nat.le_refl _) (by decide) rfl
        have hn1 : Hid (∀ j u, (frows (D.take k))[j]? = some u → (W.alloc (.cells #[] 113)).cell? ((⟨g, o, none⟩ : Addr).add j) = some u) := Lib.hid fun j u hj => by
          have h1 := hha j u hj
          have h2 := World.block_lt_of_cell? W _ h1
          rw [World.cell?_of_block (w := W) (Below.heap_alloc W _ _ h2)]; exact h1
        have HTL : Hid ((frows (D.take k)).length = k * 2) := Lib.hid (by rw [frows_length, List.length_take]; omega)
        have HDL : Hid ((frows (D.drop k)).length = (n - k) * 2) := Lib.hid (by rw [frows_length, List.length_drop, HN.out])
        have HN3 : Hid (∀ W' : World, Below W.heap.size W W' → ∀ j u, (frows (D.drop k))[j]? = some u → W'.cell? (ad9.add j) = some u) := Lib.hid fun W' hW j u hj => by
          have h1 := hce j u hj
          have h2 := World.block_lt_of_cell? W _ h1
          rw [World.cell?_of_block (w := W) (hW.block _ h2)]; exact h1
        have OT : Hid (∀ u ∈ frows (D.take k), u.oneCell' = true) := Lib.hid (frows_cell (fun e he => HSW.out.fat.bod e (List.mem_of_mem_take he)))
        have OD : Hid (∀ u ∈ frows (D.drop k), u.oneCell' = true) := Lib.hid (frows_cell (fun e he => HSW.out.fat.bod e (List.mem_of_mem_drop he)))
        have M5 : Hid (0 + k ≤ maxLen ∧ (0 + k) * 40 ≤ 140737488355328) := Lib.hid (by unfold maxLen; omega)
        have M6 : Hid (0 + k + 1 ≤ maxLen ∧ (0 + k + 1) * 40 ≤ 140737488355328) := Lib.hid (by unfold maxLen; omega)
        have M7 : Hid (k + 1 + (n - k) ≤ maxLen ∧ (k + 1 + (n - k)) * 40 ≤ 140737488355328) := Lib.hid (by unfold maxLen; omega)
        have HXB : Hid (w.heap.size < W.heap.size) := Lib.hid (Array.getElem?_eq_some_iff.1 HSW.out.box).1
        clear hce hha hcap hkn
        have hs9 := hsl
        clear hsl
        go_wp2_with (first
          | (at_builtin; refine wpList_append_own _ (by rfl) (.tmp 36) (.tmp 39) _ (by rfl) W.heap.size 113 i0 _ 2 40 Tryz.underlying57 hi0 hz0 hz1 hz2 rfl (by omega) _ _ _ (by rfl) O6.out ad9 (n - k) _ (frows (D.drop k)) (by rfl) HDL.out (HN3.out w6 S6.out) OD.out M7.out.1 M7.out.2 S6.out.size ?_; intro v7 w7 own7 grow7 _; have O7 := Lib.hid own7; have S7 : Hid (Below W.heap.size W w7) := Lib.hid (S6.out.grown grow7 S6.out.size (fun k hk => (O6.out.lt k hk).1)); clear own7 grow7)
          | (at_builtin; refine wpList_append_lies _ (by rfl) (.tmp 32) (.tmp 34) _ (by rfl) W.heap.size 113 i0 _ 2 40 Tryz.underlying57 hi0 hz0 hz1 hz2 rfl (by omega) v5 (0 + k) ([] ++ frows (D.take k)) (by rfl) (O5.out.alloc _) ⟨w5.heap.size, 0, none⟩ 1 1 [stv nm, .slice pu l.length cu] (by rfl) (by rfl) (World.news_of_block (cs := #[stv nm, .slice pu l.length cu]) (t := 113) (fr := (0, 0)) (heap_alloc_new w5 _)) (by simp [Value.oneCell']) (by decide) M6.out.1 M6.out.2 (Nat.le_trans S5.out.size (by simp)) (w5.heap.size + 1) (by simp) ?_; intro gg cap6 w6 own6 grow6 _ _; simp only [Nat.zero_add, List.nil_append] at own6; have O6 := Lib.hid own6; have S6 : Hid (Below W.heap.size W w6) := Lib.hid ((S5.out.alloc S5.out.size _).grown grow6 (Nat.le_trans S5.out.size (by simp)) (fun k hk => (O5.out.lt k hk).1)); clear own6 grow6)
          | (at_builtin; refine wpList_append_own _ (by rfl) (.tmp 27) (.tmp 30) _ (by rfl) W.heap.size 113 i0 _ 2 40 Tryz.underlying57 hi0 hz0 hz1 hz2 rfl (by omega) (.slice (some ⟨W.heap.size, 0, none⟩) 0 0) 0 [] (by rfl) hown ⟨g, o, none⟩ k _ (frows (D.take k)) (by rfl) HTL.out hn1.out OT.out M5.out.1 M5.out.2 (by simp) ?_; intro v5 w5 own5 grow5 _; have O5 := Lib.hid own5; have S5 : Hid (Below W.heap.size W w5) := Lib.hid (((Below.refl _ _).alloc (Nat.le_refl _) _).grown grow5 (by simp) (by intro k hk; cases hk; exact Nat.le_refl _)); have hx5 : w5.heap[w.heap.size]? = some (.cells #[stv nm, .slice pu l.length cu] 113 (0, 0)) := (S5.out.block _ HXB.out).trans HSW.out.box; have x50 : w5.cell? ⟨w.heap.size, 0, none⟩ = some (stv nm) := (by rw [cell_of_row w5 _ 0 _ _ _ hx5]; rfl); have x51 : w5.cell? ⟨w.heap.size, 1, none⟩ = some (.slice pu l.length cu) := (by rw [cell_of_row w5 _ 1 _ _ _ hx5]; rfl); clear own5 grow5 hx5))
        go_ret
        refine ⟨_, rfl, ?_, HSW.out.bel.trans (S7.out.mono HSW.out.bel.size)⟩
        rw [HPUT.out]
        exact put_fat O7.out HSW.out S7.out HB.out HA1.out (by rw [List.length_append, List.length_cons, List.length_take, List.length_drop, ← HN.out]; omega) (by rw [frows_app]; simp [frows, frow])
end Go.Proofs.YtfneadlknieppaaGreatDoor
namespace Go.Proofs.YtfneadlknieppaaGreatDoor
open Go.RowKit
open Go.Maps

theorem find_bat {w : World} {A : Nat → Prop} {v : Value} {E : List Fe} (h : FAt w A v E) (nm : Key) : ∃ p cap, findR (aget nm E) = .tuple #[.slice p (fbytes nm (fb E)).length cap, .bool (aget nm E).isSome] ∧ BAt w A (.slice p (fbytes nm (fb E)).length cap) (fbytes nm (fb E)) := by
  cases hg : aget nm E with
  | none =>
    have e : fbytes nm (fb E) = [] := by unfold fbytes; rw [fb_get, hg]; rfl
    rw [e]
    exact ⟨none, 0, rfl, .inl ⟨rfl, rfl⟩, fun hn => absurd rfl hn⟩
  | some x =>
    have e : fbytes nm (fb E) = x.2 := by unfold fbytes; rw [fb_get, hg]; rfl
    have hb := h.bod (nm, x) (aget_mem hg)
    obtain ⟨p, c, hv⟩ := len_val hb.seen
    have hv' : x.1 = .slice p x.2.length c := hv
    rw [e]
    exact ⟨p, c, by rw [← hv']; rfl, by rw [← hv']; exact hb⟩
theorem cell_kb {W W' : World} {a : Addr} {v : Value} (h : W.cell? a = some v) (hb : Below W.heap.size W W') : W'.cell? a = some v := by
  have h2 := World.block_lt_of_cell? W _ h
  rw [World.cell?_of_block (w := W) (hb.block _ h2)]; exact h
theorem below_da (W : World) (o : Obj) : Below W.heap.size W (W.drew.alloc o) := ⟨rfl, rfl, rfl, by simp, fun k hk => Below.heap_alloc W.drew _ _ hk⟩
theorem bslice_run (p : Option Addr) (n cap m : Nat) (hm : m ≤ cap) (h0 : p = none → m = 0 ∧ n = 0 ∧ cap = 0) (W : World) : (Instr.slice 37 (.slice p n cap) none (some (.int .i64 m)) none).run Tryz.prog W = .ok (.slice p m cap) W := by
  have h1 : (m : Int) ≤ (cap : Int) := by omega
  have h2 : (0 : Int) ≤ (m : Int) := by omega
  cases p with
  | none => obtain ⟨rfl, rfl, rfl⟩ := h0 rfl; simp [Instr.slice, run_underlying Tryz.underlying37, go_sem]
  | some a => simp [Instr.slice, run_underlying Tryz.underlying37, go_sem, h1, h2]
theorem BAt.form {w : World} {A : Nat → Prop} {p : Option Addr} {cap : Nat} {l : List Int} (h : BAt w A (.slice p l.length cap) l) : l.length ≤ cap ∧ (p = none → l.length = 0 ∧ cap = 0) := by
  rcases h.seenr with ⟨h1, h2⟩ | ⟨g, o, cap', h1, hc, _⟩
  · simp at h1; obtain ⟨rfl, _, rfl⟩ := h1; subst h2; exact ⟨Nat.le_refl _, fun _ => ⟨rfl, rfl⟩⟩
  · simp at h1; obtain ⟨rfl, rfl⟩ := h1; exact ⟨hc, fun e => by cases e⟩
/-- What turn leaves. -/
def TPost (w : World) (A : Nat → Prop) (F : Fil) (e : Ending) (w' : World) : Prop := ∃ v' E', e = .returned v' ∧ FAt w' (fun k => A k ∨ w.heap.size ≤ k) v' E' ∧ fb E' = F ∧ Below w.heap.size w w'
set_option maxRecDepth 20000 in
set_option maxHeartbeats 2000000 in
theorem rturn0_to (w : World) (A : Nat → Prop) (v : Value) (E : List Fe) (nm to : Key) (u : Value) (bs : List Int) (n : Int) (h : FAt w A v E) (hl : E.length ≤ 1000000) (hu : BAt w A u bs) (ht : (fbytes nm (fb E)).length ≤ 16777216) (hbs : bs.length ≤ 16777216) :
    Calls Tryz.prog 34 #[v, .agg #[.int .i64 1, stv nm, stv to, u, .int .i64 n]] w (TPost w A (aput nm (fbytes nm (fb E) ++ bs) (fb E))) := by
  obtain ⟨pu, cu, rfl⟩ := len_val hu.seen
  obtain ⟨p0, cap0, rfl, _⟩ := h.slice
  have H := Lib.hid h
  have HU := Lib.hid hu
  clear h hu
  go_enter Tryz.func34, Tryz.ntmps34
  go_wp2_with fail
  have B0 : Hid (Below w.heap.size w (w.alloc (.cells #[.int .i64 1, stv nm, stv to, .slice pu bs.length cu, .int .i64 n] 78))) := Lib.hid ((Below.refl _ w).alloc (Nat.le_refl _) _)
  have X0 : Hid ((w.alloc (.cells #[.int .i64 1, stv nm, stv to, .slice pu bs.length cu, .int .i64 n] 78)).heap[w.heap.size]? = some (.cells #[.int .i64 1, stv nm, stv to, .slice pu bs.length cu, .int .i64 n] 78 (0, 0))) := Lib.hid (heap_alloc_last w _)
  generalize w.alloc (.cells #[.int .i64 1, stv nm, stv to, .slice pu bs.length cu, .int .i64 n] 78) = W0 at *
  have H0 := Lib.hid (H.out.kb B0.out)
  have HU0 := Lib.hid (HU.out.kb B0.out)
  refine (find_to W0 A _ E nm H0.out hl).mono ?_
  rintro e w' ⟨rfl, rfl⟩
  obtain ⟨pb, cb, hfr, hbb⟩ := find_bat H0.out nm
  rw [hfr]
  have HBB := Lib.hid hbb
  obtain ⟨bl, hbl⟩ : ∃ bl, bl = fbytes nm (fb E) := ⟨_, rfl⟩
  rw [← hbl] at HBB ⊢
  have HBL := Lib.hid hbl
  clear hfr hbb hbl
  have c0 : W0.cell? ⟨w.heap.size, 0, none⟩ = some (.int .i64 1) := by rw [cell_of_row W0 _ 0 _ _ _ X0.out]; rfl
  have c1 : W0.cell? ⟨w.heap.size, 1, none⟩ = some (stv nm) := by rw [cell_of_row W0 _ 1 _ _ _ X0.out]; rfl
  have c2 : W0.cell? ⟨w.heap.size, 2, none⟩ = some (stv to) := by rw [cell_of_row W0 _ 2 _ _ _ X0.out]; rfl
  have c3 : W0.cell? ⟨w.heap.size, 3, none⟩ = some (.slice pu bs.length cu) := by rw [cell_of_row W0 _ 3 _ _ _ X0.out]; rfl
  have c4 : W0.cell? ⟨w.heap.size, 4, none⟩ = some (.int .i64 n) := by rw [cell_of_row W0 _ 4 _ _ _ X0.out]; rfl
  have HBZ : Hid (bl.length ≤ 16777216) := Lib.hid (by rw [HBL.out]; exact ht)
  have HC : Hid (∀ W, Below W0.heap.size W0 W → W.cell? ⟨w.heap.size, 1, none⟩ = some (stv nm) ∧ W.cell? ⟨w.heap.size, 3, none⟩ = some (.slice pu bs.length cu)) := Lib.hid (fun W hW => ⟨cell_kb c1 hW, cell_kb c3 hW⟩)
  have hown : Hid (BOwn (W0.drew.alloc (.cells #[] 5)) W0.heap.size (.slice (some ⟨W0.heap.size, 0, none⟩) 0 0) []) := Lib.hid (World.ownsRow_made (base := W0.heap.size) (e := 5) (size := 1) W0.drew #[] 0 (Nat.le_refl _) (by decide) rfl)
  have HB3 : Hid (Below W0.heap.size W0 (W0.drew.alloc (.cells #[] 5))) := Lib.hid (below_da W0 _)
  have HL1 : Hid (([] : List Int).length + bl.length ≤ 140737488351232) := Lib.hid (by have := HBZ.out; simp; omega)
  have HL2 : Hid (bl.length + bs.length ≤ 140737488351232) := Lib.hid (by have := HBZ.out; omega)
  clear ht hbs c2 c4
  go_wp2_with fail
  try simp only [List.append]
  refine wp_region_noPanic ?_
  refine wp_region_held_drew (S := (fun W => W.cell? ⟨w.heap.size, 1, none⟩ = some (stv nm) ∧ W.cell? ⟨w.heap.size, 3, none⟩ = some (.slice pu bs.length cu))) (by kernel_rfl) ⟨c1, c3⟩ (fun hHeld => ?_)
  refine wpAnyH_take (i := 0) (v := ?_) (by simp only [List.getElem?_toArray, List.getElem?_cons_zero]; rfl) (by kernel_rfl) (by kernel_rfl) (by kernel_rfl) (fun _ _ _ h => h) (Or.inl ⟨by rfl, ?_⟩) (by assumption) ?_
  rotate_left
  · intro w hSw
    try dsimp only at hSw
    go_simp
    try with_reducible rfl
  try simp only [Act.put, List.setIfInBounds_toArray, List.set_cons_zero, List.set_cons_succ]
  refine wpAnyH_take (i := 1) (v := ?_) (by simp only [List.getElem?_toArray, List.getElem?_cons_succ, List.getElem?_cons_zero]; rfl) (by kernel_rfl) (by kernel_rfl) (by kernel_rfl) (fun _ _ _ h => h) (Or.inl ⟨by rfl, ?_⟩) (by assumption) ?_
  rotate_left
  · intro w hSw
    try dsimp only at hSw
    go_simp
    try with_reducible rfl
  try simp only [Act.put, List.setIfInBounds_toArray, List.set_cons_zero, List.set_cons_succ]
  refine wpAnyH_take (i := 2) (v := ?_) (by simp only [List.getElem?_toArray, List.getElem?_cons_succ, List.getElem?_cons_zero]; rfl) (by kernel_rfl) (by kernel_rfl) (by kernel_rfl) (fun _ _ _ h => h) (Or.inl ⟨by rfl, ?_⟩) (by assumption) ?_
  rotate_left
  · intro w hSw
    try dsimp only at hSw
    go_simp
    try with_reducible rfl
  try simp only [Act.put, List.setIfInBounds_toArray, List.set_cons_zero, List.set_cons_succ]
  refine wpAnyH_take (i := 4) (v := ?_) (by simp only [List.getElem?_toArray, List.getElem?_cons_succ, List.getElem?_cons_zero]; rfl) (by kernel_rfl) (by kernel_rfl) (by kernel_rfl) (fun _ _ _ h => h) (Or.inl ⟨by rfl, ?_⟩) (by assumption) ?_
  rotate_left
  · intro w hSw
    try dsimp only at hSw
    go_simp
    try with_reducible rfl
  try simp only [Act.put, List.setIfInBounds_toArray, List.set_cons_zero, List.set_cons_succ]
  refine wpAnyH_take (i := 6) (v := ?_) (by simp only [List.getElem?_toArray, List.getElem?_cons_succ, List.getElem?_cons_zero]; rfl) (by kernel_rfl) (by kernel_rfl) (by kernel_rfl) (fun _ _ _ h => h) (Or.inl ⟨by rfl, ?_⟩) (by assumption) ?_
  rotate_left
  · intro w hSw
    try dsimp only at hSw
    go_simp
    try with_reducible rfl
  try simp only [Act.put, List.setIfInBounds_toArray, List.set_cons_zero, List.set_cons_succ]
  refine wpAnyH_take (i := 7) (v := ?_) (by simp only [List.getElem?_toArray, List.getElem?_cons_succ, List.getElem?_cons_zero]; rfl) (by kernel_rfl) (by kernel_rfl) (by kernel_rfl) (fun _ _ _ h => h) (Or.inl ⟨by rfl, ?_⟩) (by assumption) ?_
  rotate_left
  · intro w hSw
    try dsimp only at hSw
    go_simp
    try with_reducible rfl
  try simp only [Act.put, List.setIfInBounds_toArray, List.set_cons_zero, List.set_cons_succ]
  refine wpAnyH_ready (rs := [3]) (by kernel_rfl) (by simp) ?_
  refine AllReadyH.cons (by simp only [List.getElem?_toArray, List.getElem?_cons_succ, List.getElem?_cons_zero]; rfl) (fun K hK => ?_) AllReadyH.nil
  go_simp
  refine hK.out _ _ (HC.out _ HB3.out) (fun hHeld => ?_)
  clear hK K
  try simp only [Act.put, List.setIfInBounds_toArray, List.set_cons_zero, List.set_cons_succ]
  refine wpAnyH_ready (rs := [5]) (by kernel_rfl) (by simp) ?_
  refine AllReadyH.cons (by simp only [List.getElem?_toArray, List.getElem?_cons_succ, List.getElem?_cons_zero]; rfl) (fun K hK => ?_) AllReadyH.nil
  refine step_append_bytes (by rfl) _ _ (by rfl) W0.heap.size (.slice (some ⟨W0.heap.size, 0, none⟩) 0 0) [] (by rfl) hown.out (.slice pb bl.length cb) bl (by rfl) (HBB.out.kb HB3.out).seen HL1.out HB3.out.size ?_
  intro v5 w5 own5 grow5 _
  rw [List.nil_append] at own5
  have B5 : Hid (Below W0.heap.size W0 w5) := Lib.hid (HB3.out.grown grow5 HB3.out.size (fun k hk => (hown.out.lt k hk).1))
  obtain ⟨p5, cap5, rfl⟩ := own_slice own5
  have O5 := Lib.hid own5
  clear own5 grow5
  refine hK.out _ _ (HC.out _ B5.out) (fun hHeld => ?_)
  clear hK K
  try simp only [Act.put, List.setIfInBounds_toArray, List.set_cons_zero, List.set_cons_succ]
  refine wpAnyH_ready (rs := [8]) (by kernel_rfl) (by simp) ?_
  refine AllReadyH.cons (by simp only [List.getElem?_toArray, List.getElem?_cons_succ, List.getElem?_cons_zero]; rfl) (fun K hK => ?_) AllReadyH.nil
  refine step_append_bytes (by rfl) _ _ (by rfl) W0.heap.size (.slice p5 bl.length cap5) bl (by rfl) O5.out (.slice pu bs.length cu) bs (by rfl) (HU0.out.kb B5.out).seen HL2.out B5.out.size ?_
  intro v8 w8 own8 grow8 _
  obtain ⟨zs, hz⟩ : ∃ zs, zs = bl ++ bs := ⟨_, rfl⟩
  have HZ := Lib.hid hz
  rw [← hz] at own8
  clear hz
  have B8 : Hid (Below W0.heap.size W0 w8) := Lib.hid (B5.out.grown grow8 B5.out.size (fun k hk => (O5.out.lt k hk).1))
  obtain ⟨p8, cap8, rfl⟩ := own_slice own8
  have O8 := Lib.hid own8
  clear own8 grow8
  refine hK.out _ _ (HC.out _ B8.out) (fun hHeld => ?_)
  clear hK K
  try simp only [Act.put, List.setIfInBounds_toArray, List.set_cons_zero, List.set_cons_succ]
  refine wpAnyH_take (i := 9) (v := ?_) (by simp only [List.getElem?_toArray, List.getElem?_cons_succ, List.getElem?_cons_zero]; rfl) (by kernel_rfl) (by kernel_rfl) (by kernel_rfl) (fun _ _ _ h => h) (Or.inl ⟨by rfl, ?_⟩) (by assumption) ?_
  rotate_left
  · intro w hSw
    try dsimp only at hSw
    go_simp
    try with_reducible rfl
  try simp only [Act.put, List.setIfInBounds_toArray, List.set_cons_zero, List.set_cons_succ]
  refine wpAnyH_ready (rs := [10]) (by kernel_rfl) (by simp) ?_
  refine AllReadyH.cons (by simp only [List.getElem?_toArray, List.getElem?_cons_succ, List.getElem?_cons_zero]; rfl) (fun K hK => ?_) AllReadyH.nil
  go_simp
  refine (rput_to w8 (fun k => A k ∨ w.heap.size ≤ k) _ E nm (.slice p8 zs.length cap8) zs ((H0.out.kb B8.out).mono (fun k hk => .inl hk)) hl (BAt.own O8.out (fun k hk => .inr (Nat.le_trans B0.out.size hk)))).mono ?_
  rintro e w9 ⟨v9, rfl, h9, b9⟩
  have H9 := Lib.hid h9
  have B9 : Hid (Below W0.heap.size W0 w9) := Lib.hid (B8.out.trans (b9.mono B8.out.size))
  clear h9 b9
  go_wp2_with fail
  refine hK.out _ _ (HC.out _ B9.out) (fun hHeld => ?_)
  clear hK K
  try simp only [Act.put, List.setIfInBounds_toArray, List.set_cons_zero, List.set_cons_succ]
  refine wpAnyH_take (i := 11) (v := ?_) (by simp only [List.getElem?_toArray, List.getElem?_cons_succ, List.getElem?_cons_zero]; rfl) (by kernel_rfl) (by kernel_rfl) (by kernel_rfl) (fun _ _ _ h => h) (Or.inl ⟨by rfl, ?_⟩) (by assumption) ?_
  rotate_left
  · intro w hSw
    try dsimp only at hSw
    go_simp
    try with_reducible rfl
  try simp only [Act.put, List.setIfInBounds_toArray, List.set_cons_zero, List.set_cons_succ]
  refine wpAnyH_done (by kernel_rfl) ?_ _
  refine NoPanic.normal ?_
  go_wp2_with fail
  go_ret
  refine ⟨_, _, rfl, H9.out.mono (fun k hk => ?_), ?_, B0.out.trans (B9.out.mono B0.out.size)⟩
  · rcases hk with (hk | hk) | hk
    · exact .inl hk
    · exact .inr hk
    · exact .inr (Nat.le_trans (Nat.le_trans B0.out.size B8.out.size) hk)
  · rw [fb_put, HZ.out, HBL.out]
set_option maxRecDepth 20000 in
set_option maxHeartbeats 2000000 in
theorem rturn1_to (w : World) (A : Nat → Prop) (v : Value) (E : List Fe) (nm to : Key) (u : Value) (bs : List Int) (n : Nat) (h : FAt w A v E) (hl : E.length ≤ 1000000) (hu : BAt w A u bs) (hn : n ≤ (fbytes nm (fb E)).length) :
    Calls Tryz.prog 34 #[v, .agg #[.int .i64 2, stv nm, stv to, u, .int .i64 n]] w (TPost w A (aput nm ((fbytes nm (fb E)).take n) (fb E))) := by
  obtain ⟨pu, cu, rfl⟩ := len_val hu.seen
  obtain ⟨p0, cap0, rfl, _⟩ := h.slice
  have H := Lib.hid h
  have HU := Lib.hid hu
  clear h hu
  go_enter Tryz.func34, Tryz.ntmps34
  go_wp2_with fail
  have B0 : Hid (Below w.heap.size w (w.alloc (.cells #[.int .i64 2, stv nm, stv to, .slice pu bs.length cu, .int .i64 n] 78))) := Lib.hid ((Below.refl _ w).alloc (Nat.le_refl _) _)
  have X0 : Hid ((w.alloc (.cells #[.int .i64 2, stv nm, stv to, .slice pu bs.length cu, .int .i64 n] 78)).heap[w.heap.size]? = some (.cells #[.int .i64 2, stv nm, stv to, .slice pu bs.length cu, .int .i64 n] 78 (0, 0))) := Lib.hid (heap_alloc_last w _)
  generalize w.alloc (.cells #[.int .i64 2, stv nm, stv to, .slice pu bs.length cu, .int .i64 n] 78) = W0 at *
  have H0 := Lib.hid (H.out.kb B0.out)
  have HU0 := Lib.hid (HU.out.kb B0.out)
  refine (find_to W0 A _ E nm H0.out hl).mono ?_
  rintro e w' ⟨rfl, rfl⟩
  obtain ⟨pb, cb, hfr, hbb⟩ := find_bat H0.out nm
  rw [hfr]
  have HBB := Lib.hid hbb
  obtain ⟨bl, hbl⟩ : ∃ bl, bl = fbytes nm (fb E) := ⟨_, rfl⟩
  rw [← hbl] at HBB ⊢
  have HBL := Lib.hid hbl
  clear hfr hbb hbl
  have c0 : W0.cell? ⟨w.heap.size, 0, none⟩ = some (.int .i64 2) := by rw [cell_of_row W0 _ 0 _ _ _ X0.out]; rfl
  have c1 : W0.cell? ⟨w.heap.size, 1, none⟩ = some (stv nm) := by rw [cell_of_row W0 _ 1 _ _ _ X0.out]; rfl
  have c2 : W0.cell? ⟨w.heap.size, 2, none⟩ = some (stv to) := by rw [cell_of_row W0 _ 2 _ _ _ X0.out]; rfl
  have c3 : W0.cell? ⟨w.heap.size, 3, none⟩ = some (.slice pu bs.length cu) := by rw [cell_of_row W0 _ 3 _ _ _ X0.out]; rfl
  have c4 : W0.cell? ⟨w.heap.size, 4, none⟩ = some (.int .i64 n) := by rw [cell_of_row W0 _ 4 _ _ _ X0.out]; rfl
  have HC : Hid (∀ W, Below W0.heap.size W0 W → W.cell? ⟨w.heap.size, 1, none⟩ = some (stv nm) ∧ W.cell? ⟨w.heap.size, 4, none⟩ = some (.int .i64 n)) := Lib.hid (fun W hW => ⟨cell_kb c1 hW, cell_kb c4 hW⟩)
  have HNB : Hid (n ≤ bl.length) := Lib.hid (by rw [HBL.out]; exact hn)
  have hfm := HBB.out.form
  have hsr := bslice_run pb bl.length cb n (Nat.le_trans HNB.out hfm.1) (fun e => by have := hfm.2 e; have := HNB.out; omega)
  have HTK := Lib.hid (HBB.out.take n HNB.out)
  clear hn hfm c2 c3
  go_wp2_with fail
  try simp only [List.append]
  refine wp_region_noPanic ?_
  refine wp_region_held_drew (S := (fun W => W.cell? ⟨w.heap.size, 1, none⟩ = some (stv nm) ∧ W.cell? ⟨w.heap.size, 4, none⟩ = some (.int .i64 n))) (by kernel_rfl) ⟨c1, c4⟩ (fun hHeld => ?_)
  refine wpAnyH_take (i := 0) (v := ?_) (by simp only [List.getElem?_toArray, List.getElem?_cons_zero]; rfl) (by kernel_rfl) (by kernel_rfl) (by kernel_rfl) (fun _ _ _ h => h) (Or.inl ⟨by rfl, ?_⟩) (by assumption) ?_
  rotate_left
  · intro w hSw
    try dsimp only at hSw
    go_simp
    try with_reducible rfl
  try simp only [Act.put, List.setIfInBounds_toArray, List.set_cons_zero, List.set_cons_succ]
  refine wpAnyH_take (i := 1) (v := ?_) (by simp only [List.getElem?_toArray, List.getElem?_cons_succ, List.getElem?_cons_zero]; rfl) (by kernel_rfl) (by kernel_rfl) (by kernel_rfl) (fun _ _ _ h => h) (Or.inl ⟨by rfl, ?_⟩) (by assumption) ?_
  rotate_left
  · intro w hSw
    try dsimp only at hSw
    go_simp
    try with_reducible rfl
  try simp only [Act.put, List.setIfInBounds_toArray, List.set_cons_zero, List.set_cons_succ]
  refine wpAnyH_take (i := 2) (v := ?_) (by simp only [List.getElem?_toArray, List.getElem?_cons_succ, List.getElem?_cons_zero]; rfl) (by kernel_rfl) (by kernel_rfl) (by kernel_rfl) (fun _ _ _ h => h) (Or.inl ⟨by rfl, ?_⟩) (by assumption) ?_
  rotate_left
  · intro w hSw
    try dsimp only at hSw
    go_simp
    try with_reducible rfl
  try simp only [Act.put, List.setIfInBounds_toArray, List.set_cons_zero, List.set_cons_succ]
  refine wpAnyH_take (i := 3) (v := ?_) (by simp only [List.getElem?_toArray, List.getElem?_cons_succ, List.getElem?_cons_zero]; rfl) (by kernel_rfl) (by kernel_rfl) (by kernel_rfl) (fun _ _ _ h => h) (Or.inl ⟨by rfl, ?_⟩) (by assumption) ?_
  rotate_left
  · intro w hSw
    try dsimp only at hSw
    go_simp
    try with_reducible rfl
  try simp only [Act.put, List.setIfInBounds_toArray, List.set_cons_zero, List.set_cons_succ]
  refine wpAnyH_take (i := 4) (v := ?_) (by simp only [List.getElem?_toArray, List.getElem?_cons_succ, List.getElem?_cons_zero]; rfl) (by kernel_rfl) (by kernel_rfl) (by kernel_rfl) (fun _ _ _ h => h) (Or.inl ⟨by rfl, ?_⟩) (by assumption) ?_
  rotate_left
  · intro w hSw
    try dsimp only at hSw
    go_simp
    try with_reducible rfl
  try simp only [Act.put, List.setIfInBounds_toArray, List.set_cons_zero, List.set_cons_succ]
  refine wpAnyH_take (i := 5) (v := ?_) (by simp only [List.getElem?_toArray, List.getElem?_cons_succ, List.getElem?_cons_zero]; rfl) (by kernel_rfl) (by kernel_rfl) (by kernel_rfl) (fun _ _ _ h => h) (Or.inl ⟨by rfl, ?_⟩) (by assumption) ?_
  rotate_left
  · intro w hSw
    try dsimp only at hSw
    go_simp
    try with_reducible rfl
  try simp only [Act.put, List.setIfInBounds_toArray, List.set_cons_zero, List.set_cons_succ]
  refine wpAnyH_take (i := 6) (v := ?_) (by simp only [List.getElem?_toArray, List.getElem?_cons_succ, List.getElem?_cons_zero]; rfl) (by kernel_rfl) (by kernel_rfl) (by kernel_rfl) (fun _ _ _ h => h) (Or.inl ⟨by rfl, ?_⟩) (by assumption) ?_
  rotate_left
  · intro w hSw
    try dsimp only at hSw
    go_simp
    try with_reducible rfl
  try simp only [Act.put, List.setIfInBounds_toArray, List.set_cons_zero, List.set_cons_succ]
  refine wpAnyH_take (i := 7) (v := ?_) (by simp only [List.getElem?_toArray, List.getElem?_cons_succ, List.getElem?_cons_zero]; rfl) (by kernel_rfl) (by kernel_rfl) (by kernel_rfl) (fun _ _ _ h => h) (Or.inl ⟨by rfl, ?_⟩) (by assumption) ?_
  rotate_left
  · intro w hSw
    try dsimp only at hSw
    go_simp
    try with_reducible rfl
  try simp only [Act.put, List.setIfInBounds_toArray, List.set_cons_zero, List.set_cons_succ]
  refine wpAnyH_ready (rs := [8]) (by kernel_rfl) (by simp) ?_
  refine AllReadyH.cons (by simp only [List.getElem?_toArray, List.getElem?_cons_succ, List.getElem?_cons_zero]; rfl) (fun K hK => ?_) AllReadyH.nil
  go_simp
  refine (rput_to W0.drew A _ E nm (.slice pb n cb) (bl.take n) (H0.out.kb (below_dn (m := 1) (Below.refl _ W0))) hl (HTK.out.kb (below_dn (m := 1) (Below.refl _ W0)))).mono ?_
  rintro e w9 ⟨v9, rfl, h9, b9⟩
  have H9 := Lib.hid h9
  have B9 : Hid (Below W0.heap.size W0 w9) := Lib.hid ((below_dn (m := 1) (Below.refl _ W0)).trans b9)
  clear h9 b9
  go_wp2_with fail
  refine hK.out _ _ (HC.out _ B9.out) (fun hHeld => ?_)
  clear hK K
  try simp only [Act.put, List.setIfInBounds_toArray, List.set_cons_zero, List.set_cons_succ]
  refine wpAnyH_take (i := 9) (v := ?_) (by simp only [List.getElem?_toArray, List.getElem?_cons_succ, List.getElem?_cons_zero]; rfl) (by kernel_rfl) (by kernel_rfl) (by kernel_rfl) (fun _ _ _ h => h) (Or.inl ⟨by rfl, ?_⟩) (by assumption) ?_
  rotate_left
  · intro w hSw
    try dsimp only at hSw
    go_simp
    try with_reducible rfl
  try simp only [Act.put, List.setIfInBounds_toArray, List.set_cons_zero, List.set_cons_succ]
  refine wpAnyH_done (by kernel_rfl) ?_ _
  refine NoPanic.normal ?_
  go_wp2_with fail
  go_ret
  refine ⟨_, _, rfl, H9.out.mono (fun k hk => ?_), ?_, B0.out.trans (B9.out.mono B0.out.size)⟩
  · rcases hk with hk | hk
    · exact .inl hk
    · exact .inr (Nat.le_trans B0.out.size hk)
  · rw [fb_put, HBL.out]
set_option maxRecDepth 20000 in
set_option maxHeartbeats 2000000 in
theorem rturn2_to (w : World) (A : Nat → Prop) (v : Value) (E : List Fe) (nm to : Key) (u : Value) (bs : List Int) (n : Int) (h : FAt w A v E) (hl : E.length ≤ 1000000) (hu : BAt w A u bs) :
    Calls Tryz.prog 34 #[v, .agg #[.int .i64 3, stv nm, stv to, u, .int .i64 n]] w (TPost w A (aput to (fbytes nm (fb E)) (adel nm (fb E)))) := by
  obtain ⟨pu, cu, rfl⟩ := len_val hu.seen
  obtain ⟨p0, cap0, rfl, _⟩ := h.slice
  have H := Lib.hid h
  have HU := Lib.hid hu
  clear h hu
  go_enter Tryz.func34, Tryz.ntmps34
  go_wp2_with fail
  have B0 : Hid (Below w.heap.size w (w.alloc (.cells #[.int .i64 3, stv nm, stv to, .slice pu bs.length cu, .int .i64 n] 78))) := Lib.hid ((Below.refl _ w).alloc (Nat.le_refl _) _)
  have X0 : Hid ((w.alloc (.cells #[.int .i64 3, stv nm, stv to, .slice pu bs.length cu, .int .i64 n] 78)).heap[w.heap.size]? = some (.cells #[.int .i64 3, stv nm, stv to, .slice pu bs.length cu, .int .i64 n] 78 (0, 0))) := Lib.hid (heap_alloc_last w _)
  generalize w.alloc (.cells #[.int .i64 3, stv nm, stv to, .slice pu bs.length cu, .int .i64 n] 78) = W0 at *
  have H0 := Lib.hid (H.out.kb B0.out)
  have HU0 := Lib.hid (HU.out.kb B0.out)
  refine (find_to W0 A _ E nm H0.out hl).mono ?_
  rintro e w' ⟨rfl, rfl⟩
  obtain ⟨pb, cb, hfr, hbb⟩ := find_bat H0.out nm
  rw [hfr]
  have HBB := Lib.hid hbb
  obtain ⟨bl, hbl⟩ : ∃ bl, bl = fbytes nm (fb E) := ⟨_, rfl⟩
  rw [← hbl] at HBB ⊢
  have HBL := Lib.hid hbl
  clear hfr hbb hbl
  have c0 : W0.cell? ⟨w.heap.size, 0, none⟩ = some (.int .i64 3) := by rw [cell_of_row W0 _ 0 _ _ _ X0.out]; rfl
  have c1 : W0.cell? ⟨w.heap.size, 1, none⟩ = some (stv nm) := by rw [cell_of_row W0 _ 1 _ _ _ X0.out]; rfl
  have c2 : W0.cell? ⟨w.heap.size, 2, none⟩ = some (stv to) := by rw [cell_of_row W0 _ 2 _ _ _ X0.out]; rfl
  have c3 : W0.cell? ⟨w.heap.size, 3, none⟩ = some (.slice pu bs.length cu) := by rw [cell_of_row W0 _ 3 _ _ _ X0.out]; rfl
  have c4 : W0.cell? ⟨w.heap.size, 4, none⟩ = some (.int .i64 n) := by rw [cell_of_row W0 _ 4 _ _ _ X0.out]; rfl
  have HC : Hid (∀ W, Below W0.heap.size W0 W → W.cell? ⟨w.heap.size, 1, none⟩ = some (stv nm) ∧ W.cell? ⟨w.heap.size, 2, none⟩ = some (stv to)) := Lib.hid (fun W hW => ⟨cell_kb c1 hW, cell_kb c2 hW⟩)
  clear c3 c4
  go_wp2_with fail
  try simp only [List.append]
  refine wp_region_noPanic ?_
  refine wp_region_held_drew (S := (fun W => W.cell? ⟨w.heap.size, 1, none⟩ = some (stv nm) ∧ W.cell? ⟨w.heap.size, 2, none⟩ = some (stv to))) (by kernel_rfl) ⟨c1, c2⟩ (fun hHeld => ?_)
  refine wpAnyH_take (i := 0) (v := ?_) (by simp only [List.getElem?_toArray, List.getElem?_cons_zero]; rfl) (by kernel_rfl) (by kernel_rfl) (by kernel_rfl) (fun _ _ _ h => h) (Or.inl ⟨by rfl, ?_⟩) (by assumption) ?_
  rotate_left
  · intro w hSw
    try dsimp only at hSw
    go_simp
    try with_reducible rfl
  try simp only [Act.put, List.setIfInBounds_toArray, List.set_cons_zero, List.set_cons_succ]
  refine wpAnyH_take (i := 1) (v := ?_) (by simp only [List.getElem?_toArray, List.getElem?_cons_succ, List.getElem?_cons_zero]; rfl) (by kernel_rfl) (by kernel_rfl) (by kernel_rfl) (fun _ _ _ h => h) (Or.inl ⟨by rfl, ?_⟩) (by assumption) ?_
  rotate_left
  · intro w hSw
    try dsimp only at hSw
    go_simp
    try with_reducible rfl
  try simp only [Act.put, List.setIfInBounds_toArray, List.set_cons_zero, List.set_cons_succ]
  refine wpAnyH_take (i := 2) (v := ?_) (by simp only [List.getElem?_toArray, List.getElem?_cons_succ, List.getElem?_cons_zero]; rfl) (by kernel_rfl) (by kernel_rfl) (by kernel_rfl) (fun _ _ _ h => h) (Or.inl ⟨by rfl, ?_⟩) (by assumption) ?_
  rotate_left
  · intro w hSw
    try dsimp only at hSw
    go_simp
    try with_reducible rfl
  try simp only [Act.put, List.setIfInBounds_toArray, List.set_cons_zero, List.set_cons_succ]
  refine wpAnyH_take (i := 4) (v := ?_) (by simp only [List.getElem?_toArray, List.getElem?_cons_succ, List.getElem?_cons_zero]; rfl) (by kernel_rfl) (by kernel_rfl) (by kernel_rfl) (fun _ _ _ h => h) (Or.inl ⟨by rfl, ?_⟩) (by assumption) ?_
  rotate_left
  · intro w hSw
    try dsimp only at hSw
    go_simp
    try with_reducible rfl
  try simp only [Act.put, List.setIfInBounds_toArray, List.set_cons_zero, List.set_cons_succ]
  refine wpAnyH_take (i := 5) (v := ?_) (by simp only [List.getElem?_toArray, List.getElem?_cons_succ, List.getElem?_cons_zero]; rfl) (by kernel_rfl) (by kernel_rfl) (by kernel_rfl) (fun _ _ _ h => h) (Or.inl ⟨by rfl, ?_⟩) (by assumption) ?_
  rotate_left
  · intro w hSw
    try dsimp only at hSw
    go_simp
    try with_reducible rfl
  try simp only [Act.put, List.setIfInBounds_toArray, List.set_cons_zero, List.set_cons_succ]
  refine wpAnyH_take (i := 6) (v := ?_) (by simp only [List.getElem?_toArray, List.getElem?_cons_succ, List.getElem?_cons_zero]; rfl) (by kernel_rfl) (by kernel_rfl) (by kernel_rfl) (fun _ _ _ h => h) (Or.inl ⟨by rfl, ?_⟩) (by assumption) ?_
  rotate_left
  · intro w hSw
    try dsimp only at hSw
    go_simp
    try with_reducible rfl
  try simp only [Act.put, List.setIfInBounds_toArray, List.set_cons_zero, List.set_cons_succ]
  refine wpAnyH_take (i := 7) (v := ?_) (by simp only [List.getElem?_toArray, List.getElem?_cons_succ, List.getElem?_cons_zero]; rfl) (by kernel_rfl) (by kernel_rfl) (by kernel_rfl) (fun _ _ _ h => h) (Or.inl ⟨by rfl, ?_⟩) (by assumption) ?_
  rotate_left
  · intro w hSw
    try dsimp only at hSw
    go_simp
    try with_reducible rfl
  try simp only [Act.put, List.setIfInBounds_toArray, List.set_cons_zero, List.set_cons_succ]
  refine wpAnyH_ready (rs := [3]) (by kernel_rfl) (by simp) ?_
  refine AllReadyH.cons (by simp only [List.getElem?_toArray, List.getElem?_cons_succ, List.getElem?_cons_zero]; rfl) (fun K hK => ?_) AllReadyH.nil
  go_simp
  refine (rdrop_to W0.drew A _ E nm (H0.out.kb (below_dn (m := 1) (Below.refl _ W0))) hl).mono ?_
  rintro e w8 ⟨v8, rfl, h8, b8⟩
  have H8 := Lib.hid h8
  have B8 : Hid (Below W0.heap.size W0 w8) := Lib.hid ((below_dn (m := 1) (Below.refl _ W0)).trans b8)
  clear h8 b8
  go_wp2_with fail
  refine hK.out _ _ (HC.out _ B8.out) (fun hHeld => ?_)
  clear hK K
  try simp only [Act.put, List.setIfInBounds_toArray, List.set_cons_zero, List.set_cons_succ]
  refine wpAnyH_ready (rs := [8]) (by kernel_rfl) (by simp) ?_
  refine AllReadyH.cons (by simp only [List.getElem?_toArray, List.getElem?_cons_succ, List.getElem?_cons_zero]; rfl) (fun K hK => ?_) AllReadyH.nil
  go_simp
  refine (rput_to w8 _ _ (adel nm E) to (.slice pb bl.length cb) bl H8.out (Nat.le_trans (del_len _ _) hl) ((HBB.out.kb B8.out).mono (fun k hk => .inl hk))).mono ?_
  rintro e w9 ⟨v9, rfl, h9, b9⟩
  have H9 := Lib.hid h9
  have B9 : Hid (Below W0.heap.size W0 w9) := Lib.hid (B8.out.trans (b9.mono B8.out.size))
  clear h9 b9
  go_wp2_with fail
  refine hK.out _ _ (HC.out _ B9.out) (fun hHeld => ?_)
  clear hK K
  try simp only [Act.put, List.setIfInBounds_toArray, List.set_cons_zero, List.set_cons_succ]
  refine wpAnyH_take (i := 9) (v := ?_) (by simp only [List.getElem?_toArray, List.getElem?_cons_succ, List.getElem?_cons_zero]; rfl) (by kernel_rfl) (by kernel_rfl) (by kernel_rfl) (fun _ _ _ h => h) (Or.inl ⟨by rfl, ?_⟩) (by assumption) ?_
  rotate_left
  · intro w hSw
    try dsimp only at hSw
    go_simp
    try with_reducible rfl
  try simp only [Act.put, List.setIfInBounds_toArray, List.set_cons_zero, List.set_cons_succ]
  refine wpAnyH_done (by kernel_rfl) ?_ _
  refine NoPanic.normal ?_
  go_wp2_with fail
  go_ret
  refine ⟨_, _, rfl, H9.out.mono (fun k hk => ?_), ?_, B0.out.trans (B9.out.mono B0.out.size)⟩
  · rcases hk with (hk | hk) | hk
    · exact .inl hk
    · exact .inr (Nat.le_trans B0.out.size hk)
    · exact .inr (Nat.le_trans (Nat.le_trans B0.out.size B8.out.size) hk)
  · rw [fb_put, fb_del, HBL.out]
set_option maxRecDepth 20000 in
set_option maxHeartbeats 2000000 in
theorem rturn3_to (w : World) (A : Nat → Prop) (v : Value) (E : List Fe) (nm to : Key) (u : Value) (bs : List Int) (n : Int) (h : FAt w A v E) (hl : E.length ≤ 1000000) (hu : BAt w A u bs) :
    Calls Tryz.prog 34 #[v, .agg #[.int .i64 4, stv nm, stv to, u, .int .i64 n]] w (TPost w A (adel nm (fb E))) := by
  obtain ⟨pu, cu, rfl⟩ := len_val hu.seen
  obtain ⟨p0, cap0, rfl, _⟩ := h.slice
  have H := Lib.hid h
  have HU := Lib.hid hu
  clear h hu
  go_enter Tryz.func34, Tryz.ntmps34
  go_wp2_with fail
  have B0 : Hid (Below w.heap.size w (w.alloc (.cells #[.int .i64 4, stv nm, stv to, .slice pu bs.length cu, .int .i64 n] 78))) := Lib.hid ((Below.refl _ w).alloc (Nat.le_refl _) _)
  have X0 : Hid ((w.alloc (.cells #[.int .i64 4, stv nm, stv to, .slice pu bs.length cu, .int .i64 n] 78)).heap[w.heap.size]? = some (.cells #[.int .i64 4, stv nm, stv to, .slice pu bs.length cu, .int .i64 n] 78 (0, 0))) := Lib.hid (heap_alloc_last w _)
  generalize w.alloc (.cells #[.int .i64 4, stv nm, stv to, .slice pu bs.length cu, .int .i64 n] 78) = W0 at *
  have H0 := Lib.hid (H.out.kb B0.out)
  have HU0 := Lib.hid (HU.out.kb B0.out)
  refine (find_to W0 A _ E nm H0.out hl).mono ?_
  rintro e w' ⟨rfl, rfl⟩
  obtain ⟨pb, cb, hfr, hbb⟩ := find_bat H0.out nm
  rw [hfr]
  have HBB := Lib.hid hbb
  obtain ⟨bl, hbl⟩ : ∃ bl, bl = fbytes nm (fb E) := ⟨_, rfl⟩
  rw [← hbl] at HBB ⊢
  have HBL := Lib.hid hbl
  clear hfr hbb hbl
  have c0 : W0.cell? ⟨w.heap.size, 0, none⟩ = some (.int .i64 4) := by rw [cell_of_row W0 _ 0 _ _ _ X0.out]; rfl
  have c1 : W0.cell? ⟨w.heap.size, 1, none⟩ = some (stv nm) := by rw [cell_of_row W0 _ 1 _ _ _ X0.out]; rfl
  have c2 : W0.cell? ⟨w.heap.size, 2, none⟩ = some (stv to) := by rw [cell_of_row W0 _ 2 _ _ _ X0.out]; rfl
  have c3 : W0.cell? ⟨w.heap.size, 3, none⟩ = some (.slice pu bs.length cu) := by rw [cell_of_row W0 _ 3 _ _ _ X0.out]; rfl
  have c4 : W0.cell? ⟨w.heap.size, 4, none⟩ = some (.int .i64 n) := by rw [cell_of_row W0 _ 4 _ _ _ X0.out]; rfl
  clear c2 c3 c4
  go_wp2_with fail
  refine (rdrop_to W0 A _ E nm H0.out hl).mono ?_
  rintro e w9 ⟨v9, rfl, h9, b9⟩
  have H9 := Lib.hid h9
  have B9 := Lib.hid b9
  clear h9 b9
  go_wp2_with fail
  go_ret
  refine ⟨_, _, rfl, H9.out.mono (fun k hk => ?_), ?_, B0.out.trans (B9.out.mono B0.out.size)⟩
  · rcases hk with hk | hk
    · exact .inl hk
    · exact .inr (Nat.le_trans B0.out.size hk)
  · rw [fb_del]
/-- A work's cells. -/
def Wk.ref (k : Wk) (u : Value) : List Value := [.int .i64 ((k.kind : Int) + 1), stv k.name, stv k.to, u, .int .i64 k.n]
theorem rturn_to (w : World) (A : Nat → Prop) (v : Value) (E : List Fe) (k : Wk) (u : Value) (h : FAt w A v E) (hl : E.length ≤ 1000000) (hu : BAt w A u k.bs) (hf : Fits (fb E) k) (ht : totF (fb E) ≤ 16777216) (hbs : k.kind = 0 → k.bs.length ≤ 16777216) :
    Calls Tryz.prog 34 #[v, .agg (k.ref u).toArray] w (TPost w A (turn (fb E) k)) := by
  obtain ⟨kind, nm, to, bs, n⟩ := k
  have hk : kind ≤ 3 := hf.kind
  have h4 : kind = 0 ∨ kind = 1 ∨ kind = 2 ∨ kind = 3 := by omega
  rcases h4 with rfl | rfl | rfl | rfl
  · exact rturn0_to w A v E nm to u bs n h hl hu (Nat.le_trans (fbytes_le nm (fb E)) ht) (hbs rfl)
  · exact rturn1_to w A v E nm to u bs n h hl hu (hf.long rfl)
  · exact rturn2_to w A v E nm to u bs n h hl hu
  · exact rturn3_to w A v E nm to u bs n h hl hu
end Go.Proofs.YtfneadlknieppaaGreatDoor
