/- New, Sync, Read and the small questions. Conditions: the numbers are no greater than a program's may be. -/
import Derived.Test.YtfneadlknieppaaGreatDoorDskB
namespace Go.Proofs.YtfneadlknieppaaGreatDoor
open Go.RowKit
open Go.Maps

def St.new (room : Int) : St := ⟨max 0 (min room 16777216), [], [], -1, false, 0⟩
def St.sync (s : St) : Int × St := if s.dead = true then (7, s) else if s.fuse = 0 then (7, { s with dead := true }) else (0, { s with kept := s.files, pend := [], fuse := if 0 < s.fuse then s.fuse - 1 else s.fuse, works := s.works + 1 })
def NewPost (w : World) (room : Int) (e : Ending) (w' : World) : Prop := ∃ b S, e = .returned (.pointer (some ⟨b, 0, none⟩)) ∧ DS w' w.heap.size b S (St.new room) ∧ Below w.heap.size w w' ∧ ∀ k, S k → w.heap.size ≤ k
set_option maxRecDepth 20000 in
set_option maxHeartbeats 1000000 in
theorem new_to (w : World) (room : Int) : Calls Tryz.prog 6 #[.int .i64 room] w (NewPost w room) := by
  have hmk := run_makeMap (P := Tryz.prog) 68 w
  go_enter Tryz.func6, Tryz.ntmps6
  go_wp2_with fail
  go_ret
  obtain ⟨r, hr⟩ : ∃ r, r = max 0 (min room 16777216) := ⟨_, rfl⟩
  have hr0 : 0 ≤ r ∧ r ≤ 16777216 := by omega
  have hd : DAt ((w.alloc (.map #[] 0)).alloc (.cells #[.int .i64 r, .map (some w.heap.size), .int .i64 0, .slice none 0 0, .int .i64 (-1), .bool false, .int .i64 0] 71)) (w.heap.size + 1) ⟨r, w.heap.size, 0, .slice none 0 0, -1, false, 0⟩ := by
    have := heap_alloc_last (w.alloc (.map #[] 0)) (.cells #[.int .i64 r, .map (some w.heap.size), .int .i64 0, .slice none 0 0, .int .i64 (-1), .bool false, .int .i64 0] 71)
    rw [show (w.alloc (.map #[] 0)).heap.size = w.heap.size + 1 from by simp] at this
    exact this
  have hm : MAt ((w.alloc (.map #[] 0)).alloc (.cells #[.int .i64 r, .map (some w.heap.size), .int .i64 0, .slice none 0 0, .int .i64 (-1), .bool false, .int .i64 0] 71)) w.heap.size [] := (World.ownsMap_made w Tryz.prog 9 rdv).alloc _
  refine ⟨w.heap.size + 1, fun k => k = w.heap.size + 1 ∨ k = w.heap.size, ?_, ?_, ?_, ?_⟩
  · simp
  · unfold St.new
    rw [← hr]
    refine ⟨_, [], [], {
      dc := { d := hd, m := hm, p := World.ownsRow_nil _ _ _ _, own := ⟨fun _ h => (by cases h), fun _ h => (by cases h)⟩, sep := fun k => (by simp [cnt, cntL, cntP, asum]), asc := AAsc.nil, used := rfl, bb := by omega, bm := Nat.le_refl _, many := by simp }
      hist := ⟨AAsc.nil, by simp [totF, asum], Nat.le_refl _⟩
      fb := rfl, room := rfl, fuse := rfl, dead := rfl, works := rfl, room0 := hr0, pl := Nat.le_refl _
      lt := fun k hk => (by rcases hk with rfl | rfl <;> simp <;> omega)
      foot := fun k hk => ?_ }⟩
    rcases hk with e | e | e | e
    · exact .inl e
    · exact .inr e
    · simp [Value.ownBlock] at e
    · simp [cnt, cntL, cntP, asum] at e
  · exact ((Below.refl _ w).alloc (Nat.le_refl _) _).alloc (by simp) _
  · rintro k (rfl | rfl) <;> omega

def SyncPost (w : World) (B b : Nat) (S : Nat → Prop) (r : Int × St) (e : Ending) (w' : World) : Prop := e = .returned (enoOf r.1) ∧ DPost w B b S r.2 w'
set_option maxRecDepth 20000 in
set_option maxHeartbeats 2000000 in
theorem sync_to (w : World) (B b : Nat) (S : Nat → Prop) (s : St) (h : DS w B b S s) (hw : s.works ≤ 900000000) (hfu : s.fuse < 9223372036854775808) :
    Calls Tryz.prog 75 #[.pointer (some ⟨b,0,none⟩)] w (SyncPost w B b S s.sync) := by
  obtain ⟨c, L, P, hx⟩ := h
  have HX := Lib.hid hx
  have HBG := Lib.hid (begin_nil w b c hx.dc.d)
  have HPS := Lib.hid (pass_to w b c hx.dc.d (by rw [hx.works]; omega) (by rw [hx.works]; omega) (by rw [hx.fuse]; exact hfu))
  unfold bgErr at HBG
  rw [show [].all okName = true from rfl, if_pos rfl, hx.dead] at HBG
  rw [hx.fuse] at HPS
  clear hx
  go_enter Tryz.func75, Tryz.ntmps75
  go_wp2_with fail
  refine HBG.out.mono ?_
  rintro e w' ⟨rfl, rfl⟩
  clear HBG
  by_cases hdd : s.dead = true
  case' pos =>
    have HA : Hid (s.sync = (7, s)) := Lib.hid (by unfold St.sync; rw [if_pos hdd])
    rw [if_pos hdd]
    go_wp2_with fail
    go_ret
    exact ⟨by rw [HA.out]; exact eno_7, by rw [HA.out]; exact DPost.same ⟨c, L, P, HX.out⟩ (Below.refl _ _)⟩
  case' neg =>
    rw [if_neg hdd]
    go_wp2_with fail
    refine HPS.out.mono ?_
    rintro e W3 ⟨rfl, hd3, ho3⟩
    clear HPS
    by_cases hf0 : s.fuse = 0
    case' pos =>
      rw [if_pos hf0]
      have HDI := Lib.hid (dsx_die HX.out hf0 hd3 ho3)
      have HA : Hid (s.sync = (7, { s with dead := true })) := Lib.hid (by unfold St.sync; rw [if_neg hdd, if_pos hf0])
      clear hd3 ho3
      go_wp2_with fail
      go_ret
      exact ⟨by rw [HA.out]; exact eno_7, by rw [HA.out]; exact HDI.out⟩
    case' neg =>
      rw [if_neg hf0]
      have HA : Hid (s.sync = (0, { s with kept := s.files, pend := [], fuse := if 0 < s.fuse then s.fuse - 1 else s.fuse, works := s.works + 1 })) := Lib.hid (by unfold St.sync; rw [if_neg hdd, if_neg hf0])
      have HD3 := Lib.hid hd3
      have HO3 := Lib.hid ho3
      have c3 := hd3.c3
      have f3 := hd3.fz 3
      clear hd3 ho3
      go_wp2_with fail
      go_ret
      refine ⟨by rw [HA.out]; exact eno_0, ?_⟩
      rw [HA.out]
      have o2 : Only (fun k => k = b) w (W3.setCell ⟨b, 3, none⟩ (.slice none 0 0)) := HO3.out.one rfl _
      have hp : c.pass = { c with fuse := if 0 < c.fuse then c.fuse - 1 else c.fuse, works := c.works + 1 } := by unfold Cst.pass; rw [if_neg (by rw [HX.out.fuse]; exact hf0)]
      have hl := (HX.out.hist.mono (Nat.le_succ _)).last
      have hdc : DC (W3.setCell ⟨b, 3, none⟩ (.slice none 0 0)) B b { c.pass with pv := .slice none 0 0 } L [] [] := HX.out.dc.synced (HD3.out.set3 _) (pass_mb c).1 (pass_mb c).2.1 rfl o2
      refine ⟨_, ⟨_, L, [], {
        dc := hdc
        hist := hl
        fb := HX.out.fb
        room := by rw [← HX.out.room]; exact (pass_mb c).2.2.2
        fuse := by rw [hp, ← HX.out.fuse]
        dead := by rw [hp, ← HX.out.dead]
        works := by rw [hp]; simp only; rw [HX.out.works]; omega
        room0 := HX.out.room0
        pl := Nat.zero_le _
        foot := fun k hk => hk
        lt := fun k hk => hdc.foot_lt hk }⟩, o2.mono (fun k _ e => by subst e; exact HX.out.foot _ (.inl rfl)), fun k hk => .inl ?_⟩
      rcases hk with e | e | e | e
      · exact HX.out.foot k (.inl e)
      · exact HX.out.foot k (.inr (.inl (by rw [← (pass_mb c).1]; exact e)))
      · simp [Value.ownBlock] at e
      · refine HX.out.foot k (.inr (.inr (.inr ?_)))
        unfold cnt at e ⊢
        simp only [cntP, List.map_nil, List.sum_nil] at e
        omega

/-- What Read returns. -/
def ReadPost (w : World) (n : Key) (s : St) (e : Ending) (w' : World) : Prop :=
  ∃ v, e = .returned (.tuple #[v, .bool (if s.dead = true then false else (aget n s.files).isSome)]) ∧ BOwn w' w.heap.size v (if s.dead = true then [] else fbytes n s.files) ∧ Below w.heap.size w w'
set_option maxRecDepth 20000 in
set_option maxHeartbeats 1000000 in
theorem read_to (w : World) (B b : Nat) (S : Nat → Prop) (s : St) (n : Key) (h : DS w B b S s) (hn : n.length ≤ maxLen) :
    Calls Tryz.prog 51 #[.pointer (some ⟨b,0,none⟩), stv n] w (ReadPost w n s) := by
  obtain ⟨c, L, P, hx⟩ := h
  have c5 := hx.dc.d.c5
  have c1 := hx.dc.d.c1
  rw [hx.dead] at c5
  by_cases hd : s.dead = true
  · rw [hd] at c5
    have HD := Lib.hid hd
    clear hx hd
    go_enter Tryz.func51, Tryz.ntmps51
    go_wp2_with fail
    go_ret2
    refine ⟨.slice none 0 0, ?_, ?_, Below.refl _ _⟩
    · rw [HD.out]; rfl
    · rw [if_pos HD.out]; exact World.ownsRow_nil _ _ _ _
  · have hd' : s.dead = false := by simpa using hd
    rw [hd'] at c5
    obtain ⟨p2, cap2, hv2⟩ := hx.dc.own.shp.at n
    have hlk : (Instr.lookup 68 (.map (some c.mb)) (stv n) true).run Tryz.prog w = .ok (.tuple #[.slice p2 (bytesAt n L).length cap2, .bool (aget n L).isSome]) w := by
      rw [← hv2]; exact hx.dc.m.lookOk n hn
    have hl : (bytesAt n L).length ≤ 140737488351232 := by
      have h1 := bytesAt_le n L
      have h2 := hx.hist.last.tot
      rw [← hx.fb, fb_tot] at h2
      omega
    have HC := Lib.hid (clone_any w (.slice p2 (bytesAt n L).length cap2) (bytesAt n L) hl (by rw [← hv2]; exact Seen.own (hx.dc.own.at n)))
    have HF : Hid (s.files = fb L) := Lib.hid hx.fb.symm
    have HD := Lib.hid hd
    clear hx hd hv2
    go_enter Tryz.func51, Tryz.ntmps51
    go_wp2_with fail
    refine HC.out.mono ?_
    rintro e w2 ⟨v, rfl, o2, b2⟩
    have O2 : Hid (BOwn w2 w.heap.size v (bytesAt n L)) := Lib.hid o2
    have B2 := Lib.hid b2
    clear o2 b2
    go_wp2_with fail
    go_ret2
    refine ⟨v, ?_, ?_, B2.out⟩
    · rw [if_neg HD.out, HF.out, fb_some]; rfl
    · rw [if_neg HD.out, HF.out, fb_bytes]; exact O2.out
theorem works_ds (w : World) (B b : Nat) (S : Nat → Prop) (s : St) (h : DS w B b S s) : Calls Tryz.prog 23 #[.pointer (some ⟨b,0,none⟩)] w fun e w' => e = .returned (.int .i64 s.works) ∧ w = w' := by
  obtain ⟨c, L, P, hx⟩ := h
  have := works_to w b c hx.dc.d
  rw [hx.works] at this
  exact this
end Go.Proofs.YtfneadlknieppaaGreatDoor
