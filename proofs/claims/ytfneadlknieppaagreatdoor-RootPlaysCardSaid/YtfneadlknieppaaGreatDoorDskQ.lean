/- What put and drop do with a file. Conditions: the numbers are no greater than a program's may be. · What drop, restore and shorten do. Conditions: the numbers are no greater than a program's may be. -/
import Derived.Test.YtfneadlknieppaaGreatDoorDskC
import Derived.BigQuiet
import Derived.Deep.RegionHeld3
import Derived.Test.YtfneadlknieppaaGreatDoorOctKit
namespace Go.Proofs.YtfneadlknieppaaGreatDoor
open Go.RowKit
open Go.Maps

/-- A file laid. -/
def PutPost (w : World) (b : Nat) (c : Cst) (L : List (Key × Ent)) (n : Key) (v : Value) (xs : List Int) (e : Ending) (w' : World) : Prop :=
  e = .returned (.tuple #[]) ∧ DAt w' b { c with used := c.used + (xs.length - (bytesAt n L).length) } ∧ MAt w' c.mb (aput n (v, xs) L) ∧ Only (fun k => k = b ∨ k = c.mb) w w'
set_option maxRecDepth 20000 in
set_option maxHeartbeats 2000000 in
theorem put_to (w : World) (b : Nat) (c : Cst) (L : List (Key × Ent)) (n : Key) (p : Option Addr) (cap : Nat) (xs : List Int) (h : DAt w b c) (hm : MAt w c.mb L) (hbm : b ≠ c.mb) (hs : Shp L) (hn : n.length ≤ maxLen) (hl : L.length < maxLen)
    (hx : xs.length ≤ 2305843009213693952) (hy : (bytesAt n L).length ≤ 2305843009213693952) (hu : 0 ≤ c.used) (hu2 : c.used ≤ 2305843009213693952) (hn2 : n.length ≤ 281474976710656) :
    Calls Tryz.prog 39 #[.pointer (some ⟨b,0,none⟩), stv n, .slice p xs.length cap] w (PutPost w b c L n (.slice p xs.length cap) xs) := by
  obtain ⟨p1, cap1, hv1⟩ := hs.at n
  have hlk : (Instr.lookup 68 (.map (some c.mb)) (stv n) false).run Tryz.prog w.drew = .ok (.slice p1 (bytesAt n L).length cap1) w.drew := by
    rw [← hv1]; exact MAt.look (w := w.drew) hm n hn
  have c1 := h.c1
  have c2 := h.c2
  have f2 := h.fz 2
  have H := Lib.hid h
  have HM := Lib.hid hm
  have HS := Lib.hid (And.intro hn hl)
  have HN2 := Lib.hid hn2
  clear h hm hn hl hs hv1 hn2
  unfold PutPost
  generalize (bytesAt n L).length = m1 at *
  go_enter Tryz.func39, Tryz.ntmps39
  go_wp2_with fail
  go_region
  have hw1 : ∃ u, u = c.used + ((xs.length : Int) - m1) := ⟨_, rfl⟩
  obtain ⟨u, hu'⟩ := hw1
  have HD1 : Hid (DAt ((w.setCell ⟨b, 2, none⟩ (.int .i64 (c.used + ((xs.length : Int) - m1)))).drew) b { c with used := u }) := Lib.hid (by rw [hu']; exact DAt.set2 (w := w.drew) H.out _)
  have HO1 : Hid (Only (fun k => k = b ∨ k = c.mb) w (w.setCell ⟨b, 2, none⟩ (.int .i64 (c.used + ((xs.length : Int) - m1)))).drew) := Lib.hid ((Only.refl _ w).drew.one (S := fun k => k = b ∨ k = c.mb) (.inl rfl) _)
  have HM1 : Hid (MAt (w.setCell ⟨b, 2, none⟩ (.int .i64 (c.used + ((xs.length : Int) - m1)))).drew c.mb L) := Lib.hid (HM.out.kept (S := fun k => k = b) ((Only.refl _ w).drew.one (S := fun k => k = b) rfl _) (fun e => hbm e.symm))
  rw [← hu'] at HD1 HO1 HM1 ⊢
  have HU := Lib.hid hu'
  clear c1 c2 f2 hlk H HM hu'
  go_wp2_with fail
  generalize (w.setCell ⟨b, 2, none⟩ (.int .i64 u)).drew = w1 at *
  have hc1 : w1.cell? ⟨b, 1, none⟩ = some (.map (some c.mb)) := HD1.out.c1
  try simp only [List.append]
  refine wp_region_noPanic ?_
  refine wp_region_held_drew (S := (fun W => W.cell? ⟨b, 1, none⟩ = some (.map (some c.mb)))) (by kernel_rfl) hc1 (fun hHeld => ?_)
  refine wpAnyH_take (i := 0) (v := ?_) (by simp only [List.getElem?_toArray, List.getElem?_cons_zero]; rfl) (by kernel_rfl) (by kernel_rfl) (by kernel_rfl) (fun _ _ _ h => h) (Or.inl ⟨by rfl, ?_⟩) (by assumption) ?_
  rotate_left
  · intro w hSw
    try dsimp only at hSw
    go_simp
    try with_reducible rfl
  try simp only [Act.put, List.setIfInBounds_toArray, List.set_cons_zero, List.set_cons_succ]
  refine wpAnyH_take (i := 1) (v := ?_) (by simp only [List.getElem?_toArray, List.getElem?_cons_succ, List.getElem?_cons_zero]; rfl) (by kernel_rfl) (by kernel_rfl) (by kernel_rfl) (fun _ _ _ h => h) (Or.inl ⟨by rfl, ?_⟩) (by assumption) ?_
  rotate_left
  · intro w hSw
    try dsimp only at hSw
    go_simp
    try with_reducible rfl
  try simp only [Act.put, List.setIfInBounds_toArray, List.set_cons_zero, List.set_cons_succ]
  refine wpAnyH_take (i := 2) (v := ?_) (by simp only [List.getElem?_toArray, List.getElem?_cons_succ, List.getElem?_cons_zero]; rfl) (by kernel_rfl) (by kernel_rfl) (by kernel_rfl) (fun _ _ _ h => h) (Or.inl ⟨by rfl, ?_⟩) (by assumption) ?_
  rotate_left
  · intro w hSw
    try dsimp only at hSw
    go_simp
    try with_reducible rfl
  try simp only [Act.put, List.setIfInBounds_toArray, List.set_cons_zero, List.set_cons_succ]
  refine wpAnyH_take (i := 3) (v := ?_) (by simp only [List.getElem?_toArray, List.getElem?_cons_succ, List.getElem?_cons_zero]; rfl) (by kernel_rfl) (by kernel_rfl) (by kernel_rfl) (fun _ _ _ h => h) (Or.inl ⟨by rfl, ?_⟩) (by assumption) ?_
  rotate_left
  · intro w hSw
    try dsimp only at hSw
    go_simp
    try with_reducible rfl
  try simp only [Act.put, List.setIfInBounds_toArray, List.set_cons_zero, List.set_cons_succ]
  refine wpAnyH_take (i := 4) (v := ?_) (by simp only [List.getElem?_toArray, List.getElem?_cons_succ, List.getElem?_cons_zero]; rfl) (by kernel_rfl) (by kernel_rfl) (by kernel_rfl) (fun _ _ _ h => h) (Or.inl ⟨by rfl, ?_⟩) (by assumption) ?_
  rotate_left
  · intro w hSw
    try dsimp only at hSw
    go_simp
    try with_reducible rfl
  try simp only [Act.put, List.setIfInBounds_toArray, List.set_cons_zero, List.set_cons_succ]
  refine wpAnyH_take (i := 6) (v := ?_) (by simp only [List.getElem?_toArray, List.getElem?_cons_succ, List.getElem?_cons_zero]; rfl) (by kernel_rfl) (by kernel_rfl) (by kernel_rfl) (fun _ _ _ h => h) (Or.inl ⟨by rfl, ?_⟩) (by assumption) ?_
  rotate_left
  · intro w hSw
    try dsimp only at hSw
    go_simp
    try with_reducible rfl
  try simp only [Act.put, List.setIfInBounds_toArray, List.set_cons_zero, List.set_cons_succ]
  refine wpAnyH_ready (rs := [5]) (by kernel_rfl) (by simp) ?_
  refine AllReadyH.cons (by simp only [List.getElem?_toArray, List.getElem?_cons_succ, List.getElem?_cons_zero]; rfl) (fun K hK => ?_) AllReadyH.nil
  go_simp
  refine (sclone_to _ ⟨n.toArray⟩ HN2.out).mono ?_
  rintro e w3 ⟨rfl, b3⟩
  have HD3 := Lib.hid (DAt.kb (w := w1.drew) HD1.out b3)
  have HM3 := Lib.hid (MAt.kb (w := w1.drew) HM1.out b3)
  have HO3 := Lib.hid (HO1.out.drew.trans (T := fun _ => False) (Only.of_below (w := w1.drew) b3) (fun _ h => h) (fun _ _ h => h.elim))
  have hc3 : w3.cell? ⟨b, 1, none⟩ = some (.map (some c.mb)) := HD3.out.c1
  obtain ⟨w4, hrun, hm4, ho4⟩ := HM3.out.store n HS.out.1 HS.out.2 (.slice p xs.length cap) xs
  have HD4 := Lib.hid (HD3.out.kept ho4 hbm)
  have HM4 := Lib.hid hm4
  have HO4 := Lib.hid (HO3.out.trans ho4 (fun _ h => h) (fun _ _ h => .inr h))
  have hc4 : w4.cell? ⟨b, 1, none⟩ = some (.map (some c.mb)) := HD4.out.c1
  clear b3 hm4 ho4
  go_wp2_with fail
  refine hK.out _ _ hc3 (fun hHeld => ?_)
  clear hK K
  try simp only [Act.put, List.setIfInBounds_toArray, List.set_cons_zero, List.set_cons_succ]
  refine wpAnyH_ready (rs := [7]) (by kernel_rfl) (by simp) ?_
  refine AllReadyH.cons (by simp only [List.getElem?_toArray, List.getElem?_cons_succ, List.getElem?_cons_zero]; rfl) (fun K hK => ?_) AllReadyH.nil
  go_simp
  refine hK.out _ _ hc4 (fun hHeld => ?_)
  clear hK K
  try simp only [Act.put, List.setIfInBounds_toArray, List.set_cons_zero, List.set_cons_succ]
  refine wpAnyH_done (by kernel_rfl) ?_ _
  refine NoPanic.normal ?_
  go_end0
  refine ⟨rfl, ?_, HM4.out, HO4.out⟩
  rw [← HU.out]
  exact HD4.out
end Go.Proofs.YtfneadlknieppaaGreatDoor
namespace Go.Proofs.YtfneadlknieppaaGreatDoor
open Go.RowKit
open Go.Maps

/-- A file removed. -/
def DropPost (w : World) (b : Nat) (c : Cst) (L : List (Key × Ent)) (n : Key) (e : Ending) (w' : World) : Prop :=
  e = .returned (.tuple #[]) ∧ DAt w' b { c with used := c.used - (bytesAt n L).length } ∧ MAt w' c.mb (adel n L) ∧ Only (fun k => k = b ∨ k = c.mb) w w'
set_option maxRecDepth 20000 in
set_option maxHeartbeats 2000000 in
theorem drop_to (w : World) (b : Nat) (c : Cst) (L : List (Key × Ent)) (n : Key) (h : DAt w b c) (hm : MAt w c.mb L) (hbm : b ≠ c.mb) (hs : Shp L) (hn : n.length ≤ maxLen)
    (hy : (bytesAt n L).length ≤ 2305843009213693952) (hu : 0 ≤ c.used) (hu2 : c.used ≤ 2305843009213693952) :
    Calls Tryz.prog 94 #[.pointer (some ⟨b,0,none⟩), stv n] w (DropPost w b c L n) := by
  obtain ⟨p1, cap1, hv1⟩ := hs.at n
  have hlk : (Instr.lookup 68 (.map (some c.mb)) (stv n) false).run Tryz.prog w.drew = .ok (.slice p1 (bytesAt n L).length cap1) w.drew := by
    rw [← hv1]; exact MAt.look (w := w.drew) hm n hn
  have c1 := h.c1
  have c2 := h.c2
  have f2 := h.fz 2
  have H := Lib.hid h
  have HM := Lib.hid hm
  have HS := Lib.hid hn
  clear h hm hn hs hv1
  unfold DropPost
  generalize (bytesAt n L).length = m1 at *
  go_enter Tryz.func94, Tryz.ntmps94
  go_wp2_with fail
  go_region
  have hw1 : ∃ u, u = c.used - (m1 : Int) := ⟨_, rfl⟩
  obtain ⟨u, hu'⟩ := hw1
  have HD1 : Hid (DAt ((w.setCell ⟨b, 2, none⟩ (.int .i64 (c.used - (m1 : Int)))).drew) b { c with used := u }) := Lib.hid (by rw [hu']; exact DAt.set2 (w := w.drew) H.out _)
  have HO1 : Hid (Only (fun k => k = b ∨ k = c.mb) w (w.setCell ⟨b, 2, none⟩ (.int .i64 (c.used - (m1 : Int)))).drew) := Lib.hid ((Only.refl _ w).drew.one (S := fun k => k = b ∨ k = c.mb) (.inl rfl) _)
  have HM1 : Hid (MAt (w.setCell ⟨b, 2, none⟩ (.int .i64 (c.used - (m1 : Int)))).drew c.mb L) := Lib.hid (HM.out.kept (S := fun k => k = b) ((Only.refl _ w).drew.one (S := fun k => k = b) rfl _) (fun e => hbm e.symm))
  rw [← hu'] at HD1 HO1 HM1 ⊢
  have HU := Lib.hid hu'
  clear c1 c2 f2 hlk H HM hu'
  generalize (w.setCell ⟨b, 2, none⟩ (.int .i64 u)).drew = w1 at *
  have hc1 : w1.cell? ⟨b, 1, none⟩ = some (.map (some c.mb)) := HD1.out.c1
  obtain ⟨w2, hrun, hm2, ho2⟩ := HM1.out.drop n HS.out 0
  have HD2 := Lib.hid (HD1.out.kept ho2 hbm)
  have HM2 := Lib.hid hm2
  have HO2 := Lib.hid (HO1.out.trans ho2 (fun _ h => h) (fun _ _ h => .inr h))
  clear hm2 ho2
  go_wp2_with fail
  go_end0
  refine ⟨rfl, ?_, HM2.out, HO2.out⟩
  rw [← HU.out]
  exact HD2.out

theorem own_mono {w : World} {B C e size n : Nat} {v : Value} {xs : List Value} (h : w.ownsRow B e size v n xs) (hc : C ≤ B) : w.ownsRow C e size v n xs := by
  refine ⟨h.1, ?_⟩
  rcases h.2 with h1 | ⟨g, cap, cur, h1, h2, h3⟩
  · exact .inl h1
  · exact .inr ⟨g, cap, cur, h1, Nat.le_trans hc h2, h3⟩
theorem own_take {w : World} {B : Nat} {g : Nat} {cap : Nat} {xs : List Int} (h : BOwn w B (.slice (some ⟨g, 0, none⟩) xs.length cap) xs) (n : Nat) (hn : n ≤ xs.length) : BOwn w B (.slice (some ⟨g, 0, none⟩) n cap) (xs.take n) := by
  have hl : (xs.take n).length = n := by rw [List.length_take]; omega
  refine ⟨by simp, ?_⟩
  rcases h.2 with ⟨h1, _⟩ | ⟨g', cap', cur, h1, h2, h3, h4, h5, h6, h7⟩
  · cases h1
  · cases h1
    refine .inr ⟨g, cap, cur, by rw [hl], h2, h3, by rw [hl]; omega, h5, h6, ?_⟩
    rw [hl]
    have : cur.toList.take (n * 1) = (cur.toList.take (xs.length * 1)).take n := by rw [List.take_take]; congr 1; omega
    rw [this, h7, us, us, List.map_take]

/-- The first n bytes of a slice, in the same block or in a new one. -/
def ShPost (w : World) (B : Nat) (v : Value) (xs : List Int) (e : Ending) (w' : World) : Prop :=
  ∃ v', e = .returned v' ∧ BOwn w' B v' xs ∧ Below w.heap.size w w' ∧ ∀ k, v'.ownBlock = some k → v.ownBlock = some k ∨ w.heap.size ≤ k
set_option maxRecDepth 20000 in
set_option maxHeartbeats 2000000 in
theorem shorten_to (w : World) (B : Nat) (v : Value) (xs : List Int) (n : Nat) (hn : n ≤ xs.length) (h : BOwn w B v xs) (hB : B ≤ w.heap.size) (hx : xs.length ≤ 140737488351232) :
    Calls Tryz.prog 63 #[v, .int .i64 n] w (ShPost w B v (xs.take n)) := by
  have hl : (xs.take n).length = n := by rw [List.length_take]; omega
  rcases h.2 with ⟨rfl, h0⟩ | ⟨g, cap, cur, rfl, h2, h3, h4, h5, h6, h7⟩
  · obtain rfl : xs = [] := List.eq_nil_of_length_eq_zero h0
    obtain rfl : n = 0 := by simpa using hn
    clear h h0 hl hn hx
    go_enter Tryz.func63, Tryz.ntmps63
    go_wp2
    go_ret
    exact ⟨_, rfl, World.ownsRow_nil _ _ _ _, Below.refl _ _, fun k hk => .inl hk⟩
  · have hcap : cap ≤ 9223372036854775807 := h5
    have hnc : n ≤ cap := by omega
    have ht := own_take h n hn
    have HT := Lib.hid ht
    have HC := Lib.hid (clone_any w (.slice (some ⟨g, 0, none⟩) n cap) (xs.take n) (by rw [hl]; omega) (Seen.own ht))
    have HB := Lib.hid hB
    clear h ht h2 h3 h4 h6 h7 hB
    by_cases hq : (n : Int) < (cap : Int) / 4
    · have hq' : (n : Int) < Int.tdiv (cap : Int) 4 := by rw [Int.tdiv_eq_ediv_of_nonneg (by omega)]; exact hq
      go_enter Tryz.func63, Tryz.ntmps63
      go_wp2_with (refine HC.out.mono ?_; rintro e w1 ⟨v1, rfl, o1, b1⟩; have O1 := Lib.hid o1; have B1 := Lib.hid b1; clear o1 b1)
      all_goals go_ret
      exact ⟨_, rfl, own_mono O1.out HB.out, B1.out, fun k hk => .inr (O1.out.lt k hk).1⟩
    · have hq' : ¬ (n : Int) < Int.tdiv (cap : Int) 4 := by rw [Int.tdiv_eq_ediv_of_nonneg (by omega)]; exact hq
      go_enter Tryz.func63, Tryz.ntmps63
      go_wp2_with (refine HC.out.mono ?_; rintro e w1 ⟨v1, rfl, o1, b1⟩; have O1 := Lib.hid o1; have B1 := Lib.hid b1; clear o1 b1)
      all_goals go_ret
      exact ⟨_, rfl, HT.out, Below.refl _ _, fun k hk => .inl hk⟩

set_option maxHeartbeats 1000000 in
theorem restore_put (w : World) (b : Nat) (c : Cst) (L : List (Key × Ent)) (n : Key) (p : Option Addr) (cap : Nat) (xs : List Int) (h : DAt w b c) (hm : MAt w c.mb L) (hbm : b ≠ c.mb) (hs : Shp L) (hn : n.length ≤ maxLen) (hl : L.length < maxLen)
    (hx : xs.length ≤ 2305843009213693952) (hy : (bytesAt n L).length ≤ 2305843009213693952) (hu : 0 ≤ c.used) (hu2 : c.used ≤ 2305843009213693952) (hn2 : n.length ≤ 281474976710656) :
    Calls Tryz.prog 62 #[.pointer (some ⟨b,0,none⟩), stv n, .slice p xs.length cap, .bool true] w (PutPost w b c L n (.slice p xs.length cap) xs) := by
  have HP := Lib.hid (put_to w b c L n p cap xs h hm hbm hs hn hl hx hy hu hu2 hn2)
  clear h hm hbm hs hn hl hx hy hu hu2 hn2
  go_enter Tryz.func62, Tryz.ntmps62
  go_wp2_with fail
  refine HP.out.mono ?_
  rintro e w1 ⟨rfl, h1⟩
  go_wp2_with fail
  go_end0
  exact ⟨rfl, h1⟩
set_option maxHeartbeats 1000000 in
theorem restore_drop (w : World) (b : Nat) (c : Cst) (L : List (Key × Ent)) (n : Key) (v : Value) (h : DAt w b c) (hm : MAt w c.mb L) (hbm : b ≠ c.mb) (hs : Shp L) (hn : n.length ≤ maxLen)
    (hy : (bytesAt n L).length ≤ 2305843009213693952) (hu : 0 ≤ c.used) (hu2 : c.used ≤ 2305843009213693952) :
    Calls Tryz.prog 62 #[.pointer (some ⟨b,0,none⟩), stv n, v, .bool false] w (DropPost w b c L n) := by
  have HP := Lib.hid (drop_to w b c L n h hm hbm hs hn hy hu hu2)
  clear h hm hbm hs hn hy hu hu2
  go_enter Tryz.func62, Tryz.ntmps62
  go_wp2_with fail
  refine HP.out.mono ?_
  rintro e w1 ⟨rfl, h1⟩
  go_wp2_with fail
  go_end0
  exact ⟨rfl, h1⟩
end Go.Proofs.YtfneadlknieppaaGreatDoor
