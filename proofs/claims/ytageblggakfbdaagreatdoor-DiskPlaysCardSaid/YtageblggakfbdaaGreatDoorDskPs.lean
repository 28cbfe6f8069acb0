/- The statements' own hands for DiskPlays: name and same. Conditions: no more than 900000 works. -/
import Derived.Test.YtageblggakfbdaaGreatDoorRefN
import Derived.Test.YtageblggakfbdaaGreatDoorDskKn
import Derived.Test.YtageblggakfbdaaGreatDoorOctKnown
namespace Go.Proofs.YtageblggakfbdaaGreatDoor
open Go.RowKit
open Go.Maps

def nm6 : Nat → Key
  | 0 => [97]
  | 1 => [98]
  | 2 => [108, 111, 103]
  | 3 => [114, 111, 111, 116]
  | 4 => []
  | _ => [97, 32, 110, 97, 109, 101, 32, 111, 102, 32, 109, 111, 114, 101, 32, 98, 121, 116, 101, 115, 32, 116, 104, 97, 110, 32, 109, 97, 121, 32, 98, 101]
theorem nm6_len (r : Nat) : (nm6 r).length ≤ 40 := by
  match r with
  | 0 => decide
  | 1 => decide
  | 2 => decide
  | 3 => decide
  | 4 => decide
  | _ + 5 => exact (show (32 : Nat) ≤ 40 by decide)
theorem index_six (cs : Array Value) (hc : cs.size = 6) (k : Int) (w : World) (h0 : 0 ≤ k) (h1 : k < 6) : (Instr.index 83 (.agg cs) (.int .i64 k)).run Tryz.prog w = .ok (cs.getD k.toNat undef) w := by
  have hk : k.toNat < cs.size := by omega
  simp [Instr.index, asIntOf, run_underlying Tryz.underlying83, h0, h1, go_sem, hk]
set_option maxRecDepth 20000 in
theorem lname_to (w : World) (n : Int) (r : Nat) (hr : n % 6 = r) : Calls Tryz.prog 9 #[.int .i64 n] w fun e w' => e = .returned (stv (nm6 r)) ∧ w = w' := by
  have h6 : r < 6 := by omega
  have h7 : r = 0 ∨ r = 1 ∨ r = 2 ∨ r = 3 ∨ r = 4 ∨ r = 5 := by omega
  clear h6
  rcases h7 with rfl | rfl | rfl | rfl | rfl | rfl
  · have HP := Lib.hid (pick_to w n 6 0 (by decide) (by decide) hr)
    have hix : ∀ W : World, (Instr.index 83 (.agg #[.string ⟨#[97]⟩, .string ⟨#[98]⟩, .string ⟨#[108, 111, 103]⟩, .string ⟨#[114, 111, 111, 116]⟩, .string ⟨#[]⟩, .string ⟨#[97, 32, 110, 97, 109, 101, 32, 111, 102, 32, 109, 111, 114, 101, 32, 98, 121, 116, 101, 115, 32, 116, 104, 97, 110, 32, 109, 97, 121, 32, 98, 101]⟩]) (.int .i64 0)).run Tryz.prog W = .ok (.string ⟨#[97]⟩) W := fun W => index_six _ rfl 0 W (by decide) (by decide)
    clear hr
    go_enter Tryz.func9, Tryz.ntmps9
    go_wp2_with fail
    refine HP.out.mono ?_
    rintro e w' ⟨rfl, rfl⟩
    go_wp2_with fail
    go_ret
    exact ⟨rfl, rfl⟩
  · have HP := Lib.hid (pick_to w n 6 1 (by decide) (by decide) hr)
    have hix : ∀ W : World, (Instr.index 83 (.agg #[.string ⟨#[97]⟩, .string ⟨#[98]⟩, .string ⟨#[108, 111, 103]⟩, .string ⟨#[114, 111, 111, 116]⟩, .string ⟨#[]⟩, .string ⟨#[97, 32, 110, 97, 109, 101, 32, 111, 102, 32, 109, 111, 114, 101, 32, 98, 121, 116, 101, 115, 32, 116, 104, 97, 110, 32, 109, 97, 121, 32, 98, 101]⟩]) (.int .i64 1)).run Tryz.prog W = .ok (.string ⟨#[98]⟩) W := fun W => index_six _ rfl 1 W (by decide) (by decide)
    clear hr
    go_enter Tryz.func9, Tryz.ntmps9
    go_wp2_with fail
    refine HP.out.mono ?_
    rintro e w' ⟨rfl, rfl⟩
    go_wp2_with fail
    go_ret
    exact ⟨rfl, rfl⟩
  · have HP := Lib.hid (pick_to w n 6 2 (by decide) (by decide) hr)
    have hix : ∀ W : World, (Instr.index 83 (.agg #[.string ⟨#[97]⟩, .string ⟨#[98]⟩, .string ⟨#[108, 111, 103]⟩, .string ⟨#[114, 111, 111, 116]⟩, .string ⟨#[]⟩, .string ⟨#[97, 32, 110, 97, 109, 101, 32, 111, 102, 32, 109, 111, 114, 101, 32, 98, 121, 116, 101, 115, 32, 116, 104, 97, 110, 32, 109, 97, 121, 32, 98, 101]⟩]) (.int .i64 2)).run Tryz.prog W = .ok (.string ⟨#[108, 111, 103]⟩) W := fun W => index_six _ rfl 2 W (by decide) (by decide)
    clear hr
    go_enter Tryz.func9, Tryz.ntmps9
    go_wp2_with fail
    refine HP.out.mono ?_
    rintro e w' ⟨rfl, rfl⟩
    go_wp2_with fail
    go_ret
    exact ⟨rfl, rfl⟩
  · have HP := Lib.hid (pick_to w n 6 3 (by decide) (by decide) hr)
    have hix : ∀ W : World, (Instr.index 83 (.agg #[.string ⟨#[97]⟩, .string ⟨#[98]⟩, .string ⟨#[108, 111, 103]⟩, .string ⟨#[114, 111, 111, 116]⟩, .string ⟨#[]⟩, .string ⟨#[97, 32, 110, 97, 109, 101, 32, 111, 102, 32, 109, 111, 114, 101, 32, 98, 121, 116, 101, 115, 32, 116, 104, 97, 110, 32, 109, 97, 121, 32, 98, 101]⟩]) (.int .i64 3)).run Tryz.prog W = .ok (.string ⟨#[114, 111, 111, 116]⟩) W := fun W => index_six _ rfl 3 W (by decide) (by decide)
    clear hr
    go_enter Tryz.func9, Tryz.ntmps9
    go_wp2_with fail
    refine HP.out.mono ?_
    rintro e w' ⟨rfl, rfl⟩
    go_wp2_with fail
    go_ret
    exact ⟨rfl, rfl⟩
  · have HP := Lib.hid (pick_to w n 6 4 (by decide) (by decide) hr)
    have hix : ∀ W : World, (Instr.index 83 (.agg #[.string ⟨#[97]⟩, .string ⟨#[98]⟩, .string ⟨#[108, 111, 103]⟩, .string ⟨#[114, 111, 111, 116]⟩, .string ⟨#[]⟩, .string ⟨#[97, 32, 110, 97, 109, 101, 32, 111, 102, 32, 109, 111, 114, 101, 32, 98, 121, 116, 101, 115, 32, 116, 104, 97, 110, 32, 109, 97, 121, 32, 98, 101]⟩]) (.int .i64 4)).run Tryz.prog W = .ok (.string ⟨#[]⟩) W := fun W => index_six _ rfl 4 W (by decide) (by decide)
    clear hr
    go_enter Tryz.func9, Tryz.ntmps9
    go_wp2_with fail
    refine HP.out.mono ?_
    rintro e w' ⟨rfl, rfl⟩
    go_wp2_with fail
    go_ret
    exact ⟨rfl, rfl⟩
  · have HP := Lib.hid (pick_to w n 6 5 (by decide) (by decide) hr)
    have hix : ∀ W : World, (Instr.index 83 (.agg #[.string ⟨#[97]⟩, .string ⟨#[98]⟩, .string ⟨#[108, 111, 103]⟩, .string ⟨#[114, 111, 111, 116]⟩, .string ⟨#[]⟩, .string ⟨#[97, 32, 110, 97, 109, 101, 32, 111, 102, 32, 109, 111, 114, 101, 32, 98, 121, 116, 101, 115, 32, 116, 104, 97, 110, 32, 109, 97, 121, 32, 98, 101]⟩]) (.int .i64 5)).run Tryz.prog W = .ok (.string ⟨#[97, 32, 110, 97, 109, 101, 32, 111, 102, 32, 109, 111, 114, 101, 32, 98, 121, 116, 101, 115, 32, 116, 104, 97, 110, 32, 109, 97, 121, 32, 98, 101]⟩) W := fun W => index_six _ rfl 5 W (by decide) (by decide)
    clear hr
    go_enter Tryz.func9, Tryz.ntmps9
    go_wp2_with fail
    refine HP.out.mono ?_
    rintro e w' ⟨rfl, rfl⟩
    go_wp2_with fail
    go_ret
    exact ⟨rfl, rfl⟩
theorem row_at {w : World} {B : Nat} {g n cap : Nat} {L : List Key} (h : w.ownsRow B 9 1 (.slice (some ⟨g, 0, none⟩) n cap) L.length (L.map stv)) {i : Nat} (hi : i < L.length) : w.cell? ⟨g, i, none⟩ = some (stv L[i]) := by
  have := h.cells (g := g) rfl i (stv L[i]) (by simp [hi])
  rwa [Addr.add_lit, Nat.zero_add] at this
theorem row_form {w : World} {B : Nat} {v : Value} {n : Nat} {xs : List Value} (h : w.ownsRow B 9 1 v n xs) : ∃ p cap, v = .slice p n cap ∧ (0 < n → ∃ g, p = some ⟨g, 0, none⟩) := by
  rcases h.2 with ⟨rfl, h0⟩ | ⟨g, cap, cur, rfl, _⟩
  · exact ⟨none, 0, by rw [h0], fun h => by omega⟩
  · exact ⟨_, cap, rfl, fun _ => ⟨g, rfl⟩⟩
theorem str_ne_self (x : ByteArray) (W : World) : (binOp .neq 9 (.string x) (.string x)).run Tryz.prog W = .ok (.bool false) W := by
  show (Op.stringOp .neq x x).run Tryz.prog W = _
  unfold Op.stringOp
  simp
theorem own_set {w : World} {B g n cap k : Nat} {xs : List Int} {x : Int} (h : BOwn w B (.slice (some ⟨g, 0, none⟩) n cap) xs) : BOwn (w.setCell ⟨g, k, none⟩ (.int .u8 x)) B (.slice (some ⟨g, 0, none⟩) n cap) (xs.set k x) := by
  refine ⟨by simp, ?_⟩
  rcases h.2 with ⟨hs, _⟩ | ⟨g', cap', cur, hs, hbg, hg, r1, r2, r3, r4⟩
  · cases hs
  · simp at hs
    obtain ⟨rfl, h1, rfl⟩ := hs
    refine .inr ⟨g, cap, cur.setIfInBounds k (.int .u8 x), by rw [h1, List.length_set], hbg, Lib.heap_setCell_same (i := k) hg _, by rw [List.length_set]; exact r1, r2, by simpa using r3, ?_⟩
    rw [List.length_set, Array.toList_setIfInBounds, List.take_set, r4]
    simp [us]
set_option maxRecDepth 20000 in
set_option maxHeartbeats 4000000 in
theorem lsame_to (w : World) (B d B' r : Nat) (S A : Nat → Prop) (s : St) (hD : DS w B d S s) (hR : RS w B' r A s) (hw : s.works ≤ 900000) :
    Calls Tryz.prog 25 #[.pointer (some ⟨d,0,none⟩), .pointer (some ⟨r,0,none⟩)] w fun e w' => e = .returned (.bool true) ∧ Below w.heap.size w w' := by
  have HG := Lib.hid hD.good
  have HD := Lib.hid hD
  have HR := Lib.hid hR
  have HW := Lib.hid hw
  clear hD hR hw
  go_enter Tryz.func25, Tryz.ntmps25
  go_wp2_with fail
  refine (names_to w B d S s HD.out (Nat.le_trans HW.out (by decide))).mono ?_
  rintro e w1 ⟨v1, rfl, o1, b1⟩
  have O1 : Hid (w1.ownsRow w.heap.size 9 1 v1 (rnm s).length ((rnm s).map stv)) := Lib.hid o1
  have B1 := Lib.hid b1
  clear o1 b1
  go_wp2_with fail
  refine (rnames_to w1 B' r A s (HR.out.kb B1.out) HG.out HW.out).mono ?_
  rintro e w2 ⟨v2, rfl, o2, b2⟩
  have O2 := Lib.hid o2
  have B2 : Hid (Below w.heap.size w w2) := Lib.hid (B1.out.trans (b2.mono B1.out.size))
  have O12 : Hid (w2.ownsRow w.heap.size 9 1 v1 (rnm s).length ((rnm s).map stv)) := Lib.hid (own_kept O1.out (S := fun _ => False) (Only.of_below b2) (fun _ _ h => h))
  clear o2 b2 O1 B1
  obtain ⟨p1, c1, rfl, hp1⟩ := row_form O12.out
  obtain ⟨p2, c2, rfl, hp2⟩ := row_form O2.out
  have HP1 := Lib.hid hp1
  have HP2 := Lib.hid hp2
  obtain ⟨n, hn⟩ : ∃ n, n = (rnm s).length := ⟨_, rfl⟩
  rw [← hn] at HP1 HP2 ⊢
  have HN := Lib.hid hn
  have hn6 : n ≤ 900000 := by
    have h1 := HG.out.last.many
    have h2 : (rnm s).length ≤ s.files.length := by
      unfold rnm
      split
      · simp
      · simp [nms]
    have := HW.out
    omega
  clear hp1 hp2 hn
  have HD2 := Lib.hid (HD.out.kb B2.out)
  have HR2 := Lib.hid (HR.out.kb B2.out)
  obtain ⟨f, vk, vp, E, Q, hx⟩ := HR2.out
  obtain ⟨pq, cq, rfl, _⟩ := hx.pend.slice
  have hql : Q.length = s.pend.length := by rw [← hx.fsq, List.length_map]
  have q2 := hx.c2
  have q4 := hx.c4
  have q5 := hx.c5
  rw [hql] at q2
  have HQ := Lib.hid (show w2.cell? ⟨r, 4, none⟩ = some (.bool s.dead) ∧ w2.cell? ⟨r, 5, none⟩ = some (.int .i64 s.works) ∧ w2.cell? ⟨r, 2, none⟩ = some (.slice pq s.pend.length cq) from ⟨q4, q5, q2⟩)
  clear hx hql q2 q4 q5
  have HKB : Hid (∀ W, Below w2.heap.size w2 W → W.cell? ⟨r, 4, none⟩ = some (.bool s.dead) ∧ W.cell? ⟨r, 5, none⟩ = some (.int .i64 s.works) ∧ W.cell? ⟨r, 2, none⟩ = some (.slice pq s.pend.length cq)) := Lib.hid (fun W hW => ⟨cell_kb HQ.out.1 hW, cell_kb HQ.out.2.1 hW, cell_kb HQ.out.2.2 hW⟩)
  have BD : Hid (Below w2.heap.size w2 w2.drew) := Lib.hid (below_dn (m := 1) (Below.refl _ w2))
  obtain ⟨wk, hwk⟩ : ∃ z : Nat, z = s.works := ⟨_, rfl⟩
  obtain ⟨pn, hpn⟩ : ∃ z : Nat, z = s.pend.length := ⟨_, rfl⟩
  obtain ⟨dd, hdd⟩ : ∃ z : Bool, z = s.dead := ⟨_, rfl⟩
  obtain ⟨us0, hus⟩ : ∃ z : Int, z = (if s.dead = true then 0 else (s.used : Int)) := ⟨_, rfl⟩
  have C1 := Lib.hid (dead_ds w2.drew B d S s (HD2.out.kb BD.out))
  have C2 := Lib.hid (works_ds w2.drew B d S s (HD2.out.kb BD.out))
  have C3 := Lib.hid (pending_ds w2.drew B d S s (HD2.out.kb BD.out))
  have C4 := Lib.hid (used_ds2 w2.drew B d S s (HD2.out.kb BD.out))
  have C5 := Lib.hid (rused_ds w2.drew B' r A s (HR2.out.kb BD.out) HG.out HW.out)
  rw [← hwk] at C2 HKB
  rw [← hpn] at C3 HKB
  rw [← hus] at C4 C5
  rw [← hdd] at C1 HKB
  clear hwk hpn hdd hus HQ
  go_wp2_with fail
  try simp only [List.append]
  refine wp_region_noPanic ?_
  refine wp_region_held_drew (S := (fun W => W.cell? ⟨r, 4, none⟩ = some (.bool dd) ∧ W.cell? ⟨r, 5, none⟩ = some (.int .i64 wk) ∧ W.cell? ⟨r, 2, none⟩ = some (.slice pq pn cq))) (by kernel_rfl) (HKB.out _ BD.out) (fun hHeld => ?_)
  refine wpAnyH_take (i := 0) (v := ?_) (by simp only [List.getElem?_toArray, List.getElem?_cons_zero]; rfl) (by kernel_rfl) (by kernel_rfl) (by kernel_rfl) (fun _ _ _ h => h) (Or.inl ⟨by rfl, ?_⟩) (by assumption) ?_
  rotate_left
  · intro w hSw
    try dsimp only at hSw
    go_simp
    try with_reducible rfl
  try simp only [Act.put, List.setIfInBounds_toArray, List.set_cons_zero, List.set_cons_succ]
  refine wpAnyH_take (i := 2) (v := ?_) (by simp only [List.getElem?_toArray, List.getElem?_cons_succ, List.getElem?_cons_zero]; rfl) (by kernel_rfl) (by kernel_rfl) (by kernel_rfl) (fun _ _ _ h => h) (Or.inl ⟨by rfl, ?_⟩) (by assumption) ?_
  rotate_left
  · intro w hSw
    try dsimp only at hSw
    go_simp
    try with_reducible rfl
  try simp only [Act.put, List.setIfInBounds_toArray, List.set_cons_zero, List.set_cons_succ]
  refine wpAnyH_take (i := 3) (v := ?_) (by simp only [List.getElem?_toArray, List.getElem?_cons_succ, List.getElem?_cons_zero]; rfl) (by kernel_rfl) (by kernel_rfl) (by kernel_rfl) (fun _ _ _ h => h) (Or.inl ⟨by rfl, ?_⟩) (by assumption) ?_
  rotate_left
  · intro w hSw
    try dsimp only at hSw
    go_simp
    try with_reducible rfl
  try simp only [Act.put, List.setIfInBounds_toArray, List.set_cons_zero, List.set_cons_succ]
  refine wpAnyH_take (i := 4) (v := ?_) (by simp only [List.getElem?_toArray, List.getElem?_cons_succ, List.getElem?_cons_zero]; rfl) (by kernel_rfl) (by kernel_rfl) (by kernel_rfl) (fun _ _ _ h => h) (Or.inl ⟨by rfl, ?_⟩) (by assumption) ?_
  rotate_left
  · intro w hSw
    try dsimp only at hSw
    go_simp
    try with_reducible rfl
  try simp only [Act.put, List.setIfInBounds_toArray, List.set_cons_zero, List.set_cons_succ]
  refine wpAnyH_take (i := 5) (v := ?_) (by simp only [List.getElem?_toArray, List.getElem?_cons_succ, List.getElem?_cons_zero]; rfl) (by kernel_rfl) (by kernel_rfl) (by kernel_rfl) (fun _ _ _ h => h) (Or.inl ⟨by rfl, ?_⟩) (by assumption) ?_
  rotate_left
  · intro w hSw
    try dsimp only at hSw
    go_simp
    try with_reducible rfl
  try simp only [Act.put, List.setIfInBounds_toArray, List.set_cons_zero, List.set_cons_succ]
  refine wpAnyH_ready (rs := [1]) (by kernel_rfl) (by simp) ?_
  refine AllReadyH.cons (by simp only [List.getElem?_toArray, List.getElem?_cons_succ, List.getElem?_cons_zero]; rfl) (fun K hK => ?_) AllReadyH.nil
  go_simp
  refine C1.out.mono ?_
  rintro e w' ⟨rfl, rfl⟩
  go_wp2_with fail
  refine hK.out _ _ (HKB.out _ BD.out) (fun hHeld => ?_)
  clear hK K
  try simp only [Act.put, List.setIfInBounds_toArray, List.set_cons_zero, List.set_cons_succ]
  refine wpAnyH_take (i := 6) (v := (.bool false)) (by simp only [List.getElem?_toArray, List.getElem?_cons_succ, List.getElem?_cons_zero]; rfl) (by kernel_rfl) (by kernel_rfl) (by kernel_rfl) (fun _ _ _ h => h) (Or.inl ⟨by rfl, ?_⟩) (by assumption) ?_
  · intro w hSw
    try dsimp only at hSw
    go_simp
  try simp only [Act.put, List.setIfInBounds_toArray, List.set_cons_zero, List.set_cons_succ]
  refine wpAnyH_take (i := 7) (v := ?_) (by simp only [List.getElem?_toArray, List.getElem?_cons_succ, List.getElem?_cons_zero]; rfl) (by kernel_rfl) (by kernel_rfl) (by kernel_rfl) (fun _ _ _ h => h) (Or.inl ⟨by rfl, ?_⟩) (by assumption) ?_
  rotate_left
  · intro w hSw
    try dsimp only at hSw
    go_simp
    try with_reducible rfl
  try simp only [Act.put, List.setIfInBounds_toArray, List.set_cons_zero, List.set_cons_succ]
  refine wpAnyH_take (i := 8) (v := ?_) (by simp only [List.getElem?_toArray, List.getElem?_cons_succ, List.getElem?_cons_zero]; rfl) (by kernel_rfl) (by kernel_rfl) (by kernel_rfl) (fun _ _ _ h => h) (Or.inl ⟨by rfl, ?_⟩) (by assumption) ?_
  rotate_left
  · intro w hSw
    try dsimp only at hSw
    go_simp
    try with_reducible rfl
  try simp only [Act.put, List.setIfInBounds_toArray, List.set_cons_zero, List.set_cons_succ]
  refine wpAnyH_take (i := 10) (v := ?_) (by simp only [List.getElem?_toArray, List.getElem?_cons_succ, List.getElem?_cons_zero]; rfl) (by kernel_rfl) (by kernel_rfl) (by kernel_rfl) (fun _ _ _ h => h) (Or.inl ⟨by rfl, ?_⟩) (by assumption) ?_
  rotate_left
  · intro w hSw
    try dsimp only at hSw
    go_simp
    try with_reducible rfl
  try simp only [Act.put, List.setIfInBounds_toArray, List.set_cons_zero, List.set_cons_succ]
  refine wpAnyH_take (i := 11) (v := ?_) (by simp only [List.getElem?_toArray, List.getElem?_cons_succ, List.getElem?_cons_zero]; rfl) (by kernel_rfl) (by kernel_rfl) (by kernel_rfl) (fun _ _ _ h => h) (Or.inl ⟨by rfl, ?_⟩) (by assumption) ?_
  rotate_left
  · intro w hSw
    try dsimp only at hSw
    go_simp
    try with_reducible rfl
  try simp only [Act.put, List.setIfInBounds_toArray, List.set_cons_zero, List.set_cons_succ]
  refine wpAnyH_take (i := 12) (v := ?_) (by simp only [List.getElem?_toArray, List.getElem?_cons_succ, List.getElem?_cons_zero]; rfl) (by kernel_rfl) (by kernel_rfl) (by kernel_rfl) (fun _ _ _ h => h) (Or.inl ⟨by rfl, ?_⟩) (by assumption) ?_
  rotate_left
  · intro w hSw
    try dsimp only at hSw
    go_simp
    try with_reducible rfl
  try simp only [Act.put, List.setIfInBounds_toArray, List.set_cons_zero, List.set_cons_succ]
  refine wpAnyH_take (i := 13) (v := ?_) (by simp only [List.getElem?_toArray, List.getElem?_cons_succ, List.getElem?_cons_zero]; rfl) (by kernel_rfl) (by kernel_rfl) (by kernel_rfl) (fun _ _ _ h => h) (Or.inl ⟨by rfl, ?_⟩) (by assumption) ?_
  rotate_left
  · intro w hSw
    try dsimp only at hSw
    go_simp
    try with_reducible rfl
  try simp only [Act.put, List.setIfInBounds_toArray, List.set_cons_zero, List.set_cons_succ]
  refine wpAnyH_ready (rs := [9]) (by kernel_rfl) (by simp) ?_
  refine AllReadyH.cons (by simp only [List.getElem?_toArray, List.getElem?_cons_succ, List.getElem?_cons_zero]; rfl) (fun K hK => ?_) AllReadyH.nil
  go_simp
  refine C2.out.mono ?_
  rintro e w' ⟨rfl, rfl⟩
  go_wp2_with fail
  refine hK.out _ _ (HKB.out _ BD.out) (fun hHeld => ?_)
  clear hK K
  try simp only [Act.put, List.setIfInBounds_toArray, List.set_cons_zero, List.set_cons_succ]
  refine wpAnyH_take (i := 14) (v := (.bool false)) (by simp only [List.getElem?_toArray, List.getElem?_cons_succ, List.getElem?_cons_zero]; rfl) (by kernel_rfl) (by kernel_rfl) (by kernel_rfl) (fun _ _ _ h => h) (Or.inl ⟨by rfl, ?_⟩) (by assumption) ?_
  · intro w hSw
    try dsimp only at hSw
    go_simp
  try simp only [Act.put, List.setIfInBounds_toArray, List.set_cons_zero, List.set_cons_succ]
  refine wpAnyH_take (i := 15) (v := ?_) (by simp only [List.getElem?_toArray, List.getElem?_cons_succ, List.getElem?_cons_zero]; rfl) (by kernel_rfl) (by kernel_rfl) (by kernel_rfl) (fun _ _ _ h => h) (Or.inl ⟨by rfl, ?_⟩) (by assumption) ?_
  rotate_left
  · intro w hSw
    try dsimp only at hSw
    go_simp
    try with_reducible rfl
  try simp only [Act.put, List.setIfInBounds_toArray, List.set_cons_zero, List.set_cons_succ]
  refine wpAnyH_take (i := 16) (v := ?_) (by simp only [List.getElem?_toArray, List.getElem?_cons_succ, List.getElem?_cons_zero]; rfl) (by kernel_rfl) (by kernel_rfl) (by kernel_rfl) (fun _ _ _ h => h) (Or.inl ⟨by rfl, ?_⟩) (by assumption) ?_
  rotate_left
  · intro w hSw
    try dsimp only at hSw
    go_simp
    try with_reducible rfl
  try simp only [Act.put, List.setIfInBounds_toArray, List.set_cons_zero, List.set_cons_succ]
  refine wpAnyH_take (i := 17) (v := ?_) (by simp only [List.getElem?_toArray, List.getElem?_cons_succ, List.getElem?_cons_zero]; rfl) (by kernel_rfl) (by kernel_rfl) (by kernel_rfl) (fun _ _ _ h => h) (Or.inl ⟨by rfl, ?_⟩) (by assumption) ?_
  rotate_left
  · intro w hSw
    try dsimp only at hSw
    go_simp
    try with_reducible rfl
  try simp only [Act.put, List.setIfInBounds_toArray, List.set_cons_zero, List.set_cons_succ]
  refine wpAnyH_take (i := 19) (v := ?_) (by simp only [List.getElem?_toArray, List.getElem?_cons_succ, List.getElem?_cons_zero]; rfl) (by kernel_rfl) (by kernel_rfl) (by kernel_rfl) (fun _ _ _ h => h) (Or.inl ⟨by rfl, ?_⟩) (by assumption) ?_
  rotate_left
  · intro w hSw
    try dsimp only at hSw
    go_simp
    try with_reducible rfl
  try simp only [Act.put, List.setIfInBounds_toArray, List.set_cons_zero, List.set_cons_succ]
  refine wpAnyH_take (i := 20) (v := ?_) (by simp only [List.getElem?_toArray, List.getElem?_cons_succ, List.getElem?_cons_zero]; rfl) (by kernel_rfl) (by kernel_rfl) (by kernel_rfl) (fun _ _ _ h => h) (Or.inl ⟨by rfl, ?_⟩) (by assumption) ?_
  rotate_left
  · intro w hSw
    try dsimp only at hSw
    go_simp
    try with_reducible rfl
  try simp only [Act.put, List.setIfInBounds_toArray, List.set_cons_zero, List.set_cons_succ]
  refine wpAnyH_take (i := 21) (v := ?_) (by simp only [List.getElem?_toArray, List.getElem?_cons_succ, List.getElem?_cons_zero]; rfl) (by kernel_rfl) (by kernel_rfl) (by kernel_rfl) (fun _ _ _ h => h) (Or.inl ⟨by rfl, ?_⟩) (by assumption) ?_
  rotate_left
  · intro w hSw
    try dsimp only at hSw
    go_simp
    try with_reducible rfl
  try simp only [Act.put, List.setIfInBounds_toArray, List.set_cons_zero, List.set_cons_succ]
  refine wpAnyH_take (i := 22) (v := ?_) (by simp only [List.getElem?_toArray, List.getElem?_cons_succ, List.getElem?_cons_zero]; rfl) (by kernel_rfl) (by kernel_rfl) (by kernel_rfl) (fun _ _ _ h => h) (Or.inl ⟨by rfl, ?_⟩) (by assumption) ?_
  rotate_left
  · intro w hSw
    try dsimp only at hSw
    go_simp
    try with_reducible rfl
  try simp only [Act.put, List.setIfInBounds_toArray, List.set_cons_zero, List.set_cons_succ]
  refine wpAnyH_take (i := 23) (v := ?_) (by simp only [List.getElem?_toArray, List.getElem?_cons_succ, List.getElem?_cons_zero]; rfl) (by kernel_rfl) (by kernel_rfl) (by kernel_rfl) (fun _ _ _ h => h) (Or.inl ⟨by rfl, ?_⟩) (by assumption) ?_
  rotate_left
  · intro w hSw
    try dsimp only at hSw
    go_simp
    try with_reducible rfl
  try simp only [Act.put, List.setIfInBounds_toArray, List.set_cons_zero, List.set_cons_succ]
  refine wpAnyH_ready (rs := [18]) (by kernel_rfl) (by simp) ?_
  refine AllReadyH.cons (by simp only [List.getElem?_toArray, List.getElem?_cons_succ, List.getElem?_cons_zero]; rfl) (fun K hK => ?_) AllReadyH.nil
  go_simp
  refine C3.out.mono ?_
  rintro e w' ⟨rfl, rfl⟩
  go_wp2_with fail
  refine hK.out _ _ (HKB.out _ BD.out) (fun hHeld => ?_)
  clear hK K
  try simp only [Act.put, List.setIfInBounds_toArray, List.set_cons_zero, List.set_cons_succ]
  refine wpAnyH_take (i := 24) (v := (.bool false)) (by simp only [List.getElem?_toArray, List.getElem?_cons_succ, List.getElem?_cons_zero]; rfl) (by kernel_rfl) (by kernel_rfl) (by kernel_rfl) (fun _ _ _ h => h) (Or.inl ⟨by rfl, ?_⟩) (by assumption) ?_
  · intro w hSw
    try dsimp only at hSw
    go_simp
  try simp only [Act.put, List.setIfInBounds_toArray, List.set_cons_zero, List.set_cons_succ]
  refine wpAnyH_take (i := 25) (v := ?_) (by simp only [List.getElem?_toArray, List.getElem?_cons_succ, List.getElem?_cons_zero]; rfl) (by kernel_rfl) (by kernel_rfl) (by kernel_rfl) (fun _ _ _ h => h) (Or.inl ⟨by rfl, ?_⟩) (by assumption) ?_
  rotate_left
  · intro w hSw
    try dsimp only at hSw
    go_simp
    try with_reducible rfl
  try simp only [Act.put, List.setIfInBounds_toArray, List.set_cons_zero, List.set_cons_succ]
  refine wpAnyH_take (i := 26) (v := ?_) (by simp only [List.getElem?_toArray, List.getElem?_cons_succ, List.getElem?_cons_zero]; rfl) (by kernel_rfl) (by kernel_rfl) (by kernel_rfl) (fun _ _ _ h => h) (Or.inl ⟨by rfl, ?_⟩) (by assumption) ?_
  rotate_left
  · intro w hSw
    try dsimp only at hSw
    go_simp
    try with_reducible rfl
  try simp only [Act.put, List.setIfInBounds_toArray, List.set_cons_zero, List.set_cons_succ]
  refine wpAnyH_take (i := 27) (v := ?_) (by simp only [List.getElem?_toArray, List.getElem?_cons_succ, List.getElem?_cons_zero]; rfl) (by kernel_rfl) (by kernel_rfl) (by kernel_rfl) (fun _ _ _ h => h) (Or.inl ⟨by rfl, ?_⟩) (by assumption) ?_
  rotate_left
  · intro w hSw
    try dsimp only at hSw
    go_simp
    try with_reducible rfl
  try simp only [Act.put, List.setIfInBounds_toArray, List.set_cons_zero, List.set_cons_succ]
  refine wpAnyH_take (i := 29) (v := ?_) (by simp only [List.getElem?_toArray, List.getElem?_cons_succ, List.getElem?_cons_zero]; rfl) (by kernel_rfl) (by kernel_rfl) (by kernel_rfl) (fun _ _ _ h => h) (Or.inl ⟨by rfl, ?_⟩) (by assumption) ?_
  rotate_left
  · intro w hSw
    try dsimp only at hSw
    go_simp
    try with_reducible rfl
  try simp only [Act.put, List.setIfInBounds_toArray, List.set_cons_zero, List.set_cons_succ]
  refine wpAnyH_ready (rs := [28]) (by kernel_rfl) (by simp) ?_
  refine AllReadyH.cons (by simp only [List.getElem?_toArray, List.getElem?_cons_succ, List.getElem?_cons_zero]; rfl) (fun K hK => ?_) AllReadyH.nil
  go_simp
  refine C4.out.mono ?_
  rintro e w' ⟨rfl, rfl⟩
  go_wp2_with fail
  refine hK.out _ _ (HKB.out _ BD.out) (fun hHeld => ?_)
  clear hK K
  try simp only [Act.put, List.setIfInBounds_toArray, List.set_cons_zero, List.set_cons_succ]
  refine wpAnyH_ready (rs := [30]) (by kernel_rfl) (by simp) ?_
  refine AllReadyH.cons (by simp only [List.getElem?_toArray, List.getElem?_cons_succ, List.getElem?_cons_zero]; rfl) (fun K hK => ?_) AllReadyH.nil
  go_simp
  refine C5.out.mono ?_
  rintro e w3 ⟨rfl, b3⟩
  have B3 : Hid (Below w2.heap.size w2 w3) := Lib.hid (BD.out.trans b3)
  clear b3
  go_wp2_with fail
  refine hK.out _ _ (HKB.out _ B3.out) (fun hHeld => ?_)
  clear hK K
  try simp only [Act.put, List.setIfInBounds_toArray, List.set_cons_zero, List.set_cons_succ]
  refine wpAnyH_take (i := 31) (v := (.bool false)) (by simp only [List.getElem?_toArray, List.getElem?_cons_succ, List.getElem?_cons_zero]; rfl) (by kernel_rfl) (by kernel_rfl) (by kernel_rfl) (fun _ _ _ h => h) (Or.inl ⟨by rfl, ?_⟩) (by assumption) ?_
  · intro w hSw
    try dsimp only at hSw
    go_simp
  try simp only [Act.put, List.setIfInBounds_toArray, List.set_cons_zero, List.set_cons_succ]
  refine wpAnyH_take (i := 32) (v := ?_) (by simp only [List.getElem?_toArray, List.getElem?_cons_succ, List.getElem?_cons_zero]; rfl) (by kernel_rfl) (by kernel_rfl) (by kernel_rfl) (fun _ _ _ h => h) (Or.inl ⟨by rfl, ?_⟩) (by assumption) ?_
  rotate_left
  · intro w hSw
    try dsimp only at hSw
    go_simp
    try with_reducible rfl
  try simp only [Act.put, List.setIfInBounds_toArray, List.set_cons_zero, List.set_cons_succ]
  refine wpAnyH_take (i := 33) (v := ?_) (by simp only [List.getElem?_toArray, List.getElem?_cons_succ, List.getElem?_cons_zero]; rfl) (by kernel_rfl) (by kernel_rfl) (by kernel_rfl) (fun _ _ _ h => h) (Or.inl ⟨by rfl, ?_⟩) (by assumption) ?_
  rotate_left
  · intro w hSw
    try dsimp only at hSw
    go_simp
    try with_reducible rfl
  try simp only [Act.put, List.setIfInBounds_toArray, List.set_cons_zero, List.set_cons_succ]
  refine wpAnyH_take (i := 34) (v := ?_) (by simp only [List.getElem?_toArray, List.getElem?_cons_succ, List.getElem?_cons_zero]; rfl) (by kernel_rfl) (by kernel_rfl) (by kernel_rfl) (fun _ _ _ h => h) (Or.inl ⟨by rfl, ?_⟩) (by assumption) ?_
  rotate_left
  · intro w hSw
    try dsimp only at hSw
    go_simp
    try with_reducible rfl
  try simp only [Act.put, List.setIfInBounds_toArray, List.set_cons_zero, List.set_cons_succ]
  refine wpAnyH_take (i := 35) (v := ?_) (by simp only [List.getElem?_toArray, List.getElem?_cons_succ, List.getElem?_cons_zero]; rfl) (by kernel_rfl) (by kernel_rfl) (by kernel_rfl) (fun _ _ _ h => h) (Or.inl ⟨by rfl, ?_⟩) (by assumption) ?_
  rotate_left
  · intro w hSw
    try dsimp only at hSw
    go_simp
    try with_reducible rfl
  try simp only [Act.put, List.setIfInBounds_toArray, List.set_cons_zero, List.set_cons_succ]
  refine wpAnyH_take (i := 36) (v := ?_) (by simp only [List.getElem?_toArray, List.getElem?_cons_succ, List.getElem?_cons_zero]; rfl) (by kernel_rfl) (by kernel_rfl) (by kernel_rfl) (fun _ _ _ h => h) (Or.inl ⟨by rfl, ?_⟩) (by assumption) ?_
  rotate_left
  · intro w hSw
    try dsimp only at hSw
    go_simp
    try with_reducible rfl
  try simp only [Act.put, List.setIfInBounds_toArray, List.set_cons_zero, List.set_cons_succ]
  refine wpAnyH_take (i := 37) (v := ?_) (by simp only [List.getElem?_toArray, List.getElem?_cons_succ, List.getElem?_cons_zero]; rfl) (by kernel_rfl) (by kernel_rfl) (by kernel_rfl) (fun _ _ _ h => h) (Or.inl ⟨by rfl, ?_⟩) (by assumption) ?_
  rotate_left
  · intro w hSw
    try dsimp only at hSw
    go_simp
    try with_reducible rfl
  try simp only [Act.put, List.setIfInBounds_toArray, List.set_cons_zero, List.set_cons_succ]
  refine wpAnyH_take (i := 38) (v := (.bool false)) (by simp only [List.getElem?_toArray, List.getElem?_cons_succ, List.getElem?_cons_zero]; rfl) (by kernel_rfl) (by kernel_rfl) (by kernel_rfl) (fun _ _ _ h => h) (Or.inl ⟨by rfl, ?_⟩) (by assumption) ?_
  · intro w hSw
    try dsimp only at hSw
    go_simp
  try simp only [Act.put, List.setIfInBounds_toArray, List.set_cons_zero, List.set_cons_succ]
  refine wpAnyH_take (i := 39) (v := ?_) (by simp only [List.getElem?_toArray, List.getElem?_cons_succ, List.getElem?_cons_zero]; rfl) (by kernel_rfl) (by kernel_rfl) (by kernel_rfl) (fun _ _ _ h => h) (Or.inl ⟨by rfl, ?_⟩) (by assumption) ?_
  rotate_left
  · intro w hSw
    try dsimp only at hSw
    go_simp
    try with_reducible rfl
  try simp only [Act.put, List.setIfInBounds_toArray, List.set_cons_zero, List.set_cons_succ]
  refine wpAnyH_done (by kernel_rfl) ?_ _
  refine NoPanic.normal ?_
  clear C1 C2 C3 C4 C5 HKB BD
  go_wp2_with fail
  go_loopw [7] (fun i wr => ∃ k : Nat, k ≤ n ∧ i = .int .i64 k ∧ Hid (Below w2.heap.size w2 wr)) (fun i _ => n - (intOf i).toNat)
  case atStart => exact ⟨0, Nat.zero_le _, rfl, B3⟩
  case round =>
    obtain ⟨k, hk, rfl, HB⟩ := hrel
    by_cases hlt : k < n
    · have hkL : k < (rnm s).length := by rw [← HN.out]; exact hlt
      obtain ⟨g1, rfl⟩ := HP1.out (by omega)
      obtain ⟨g2, rfl⟩ := HP2.out (by omega)
      have e1 := cell_kb (row_at O12.out hkL) HB.out
      have e2 := cell_kb (row_at O2.out hkL) HB.out
      generalize (rnm s)[k] = x at *
      have hne := str_ne_self ⟨x.toArray⟩
      go_wp2_with fail
      go_quiet (fail)
      have HB9 := Lib.hid (below_dn (m := nq) HB.out)
      clear HB e1 e2
      generalize wr.drewN nq = W at *
      go_wp2_with fail
      exact ⟨⟨k + 1, by omega, by simp, HB9⟩, by simp [intOf]; omega⟩
    · go_wp2_with fail
      clear hlt
      have HB3 := Lib.hid HB.out
      go_loopw [8] (fun i wr => ∃ j : Nat, j ≤ 6 ∧ i = .int .i64 j ∧ Hid (Below w2.heap.size w2 wr)) (fun i _ => 6 - (intOf i).toNat)
      case atStart => exact ⟨0, Nat.zero_le _, rfl, HB3⟩
      case round =>
        obtain ⟨j, hj, rfl, HJ⟩ := hrel
        by_cases hlt : j < 6
        · have HN1 := Lib.hid (fun W => lname_to W (j : Int) j (by omega))
          have hnl := nm6_len j
          generalize nm6 j = nm at *
          go_wp2_with fail
          refine (HN1.out _).mono ?_
          rintro e w' ⟨rfl, rfl⟩
          go_wp2_with fail
          refine (read_to wr B d S s nm (HD2.out.kb HJ.out) (by unfold maxLen; omega)).mono ?_
          unfold ReadPost
          obtain ⟨okb, hokb⟩ : ∃ z : Bool, z = (if s.dead = true then false else (aget nm s.files).isSome) := ⟨_, rfl⟩
          obtain ⟨bl, hbl⟩ : ∃ z : List Int, z = (if s.dead = true then [] else fbytes nm s.files) := ⟨_, rfl⟩
          rw [← hokb, ← hbl]
          rintro e w4 ⟨v4, rfl, o4, b4⟩
          obtain ⟨p4, c4, rfl⟩ := own_slice o4
          have O4 : Hid (BOwn w4 wr.heap.size (.slice p4 bl.length c4) bl) := Lib.hid o4
          have B4 : Hid (Below w2.heap.size w2 w4) := Lib.hid (HJ.out.trans (b4.mono HJ.out.size))
          have HOK := Lib.hid hokb
          have HBL := Lib.hid hbl
          clear o4 b4 hokb hbl
          go_wp2_with fail
          refine (HN1.out _).mono ?_
          rintro e w' ⟨rfl, rfl⟩
          go_wp2_with fail
          refine (rread_to w4 B' r A s nm (HR2.out.kb B4.out) HG.out HW.out).mono ?_
          unfold RRead
          rw [← HOK.out, ← HBL.out]
          rintro e w5 ⟨p5, c5, rfl, h5, b5⟩
          have H5 := Lib.hid h5
          have B5 : Hid (Below w2.heap.size w2 w5) := Lib.hid (B4.out.trans (b5.mono B4.out.size))
          have O5 : Hid (BOwn w5 wr.heap.size (.slice p4 bl.length c4) bl) := Lib.hid (own_kept O4.out (S := fun _ => False) (Only.of_below b5) (fun _ _ h => h))
          have hbase : Hid (w2.heap.size ≤ wr.heap.size) := Lib.hid HJ.out.size
          clear h5 b5 O4
          have hc1 := conv_own O5.out
          have hc2 := conv_any H5.out.seenr
          have hne := str_ne_self (strOfNums bl)
          have hbb : (okb != okb) = false := by simp
          obtain ⟨m, hm⟩ : ∃ m, m = bl.length := ⟨_, rfl⟩
          rw [← hm] at hc1 hc2 O5 ⊢
          have HMB := Lib.hid hm
          clear hm
          go_wp2_with fail
          have hmb : m ≤ 1000000000 := by
            have h1 := HG.out.last.tot
            have h2 := fbytes_le nm s.files
            rw [HMB.out, HBL.out]
            split
            · simp
            · omega
          clear hc1 hc2 hne hbb
          go_loopw [13] (fun i wr => ∃ (k : Nat) (xs : List Int), k ≤ m ∧ i = .int .i64 k ∧ Hid (xs.length = m) ∧ Hid (BOwn wr w2.heap.size (.slice p4 m c4) xs) ∧ Hid (Below w2.heap.size w2 wr)) (fun i _ => m - (intOf i).toNat)
          case atStart => exact ⟨0, bl, Nat.zero_le _, rfl, Lib.hid HMB.out.symm, Lib.hid (ownsRow_base_a O5.out hbase.out), B5⟩
          case round =>
            obtain ⟨k, xs, hkm, rfl, HXL, HOX, HBX⟩ := hrel
            by_cases hltk : k < m
            · have hkx : k < xs.length := by rw [HXL.out]; exact hltk
              obtain ⟨g4, rfl⟩ : ∃ g4, p4 = some ⟨g4, 0, none⟩ := by
                rcases HOX.out.2 with ⟨h1, h2⟩ | ⟨g, cap', cur, h1, _⟩
                · have := HXL.out; omega
                · simp at h1; exact ⟨g, h1.1⟩
              have hcx : wr.cell? ⟨g4, k, none⟩ = some (.int .u8 xs[k]) := by
                have := HOX.out.cells (g := g4) rfl k (.int .u8 xs[k]) (by simp [us, hkx])
                rwa [Addr.add_lit, Nat.zero_add] at this
              have hfx : wr.frozen? ⟨g4, k, none⟩ = false := by
                rcases HOX.out.2 with ⟨h1, h2⟩ | ⟨g, cap', cur, h1, _, hg, _⟩
                · cases h1
                · simp at h1
                  obtain ⟨rfl, _⟩ := h1
                  simp [World.frozen?, hg]
              have hgl := (HOX.out.lt g4 rfl).1
              have HO9 : Hid (BOwn (wr.setCell ⟨g4, k, none⟩ (.int .u8 (IntKind.u8.wrap (xs[k] + 1)))) w2.heap.size (.slice (some ⟨g4, 0, none⟩) m c4) (xs.set k (IntKind.u8.wrap (xs[k] + 1)))) := Lib.hid (own_set HOX.out)
              have HB9 : Hid (Below w2.heap.size w2 (wr.setCell ⟨g4, k, none⟩ (.int .u8 (IntKind.u8.wrap (xs[k] + 1))))) := Lib.hid (((Only.of_below (S := fun j => j = g4) HBX.out).one (b := g4) (i := k) rfl _).below (Nat.le_refl _) (fun j hj => by rw [hj]; exact hgl))
              have HL9 : Hid ((xs.set k (IntKind.u8.wrap (xs[k] + 1))).length = m) := Lib.hid (by rw [List.length_set]; exact HXL.out)
              generalize xs[k] = z at *
              clear hgl
              go_wp2_with fail
              exact ⟨⟨k + 1, _, by omega, by simp, HL9, HO9, HB9⟩, by simp [intOf]; omega⟩
            · go_wp2_with fail
              exact ⟨⟨j + 1, by omega, by simp, HBX⟩, by simp [intOf]; omega⟩
        · go_wp2_with fail
          go_ret
          exact ⟨rfl, B2.out.trans (HJ.out.mono B2.out.size)⟩
end Go.Proofs.YtageblggakfbdaaGreatDoor
