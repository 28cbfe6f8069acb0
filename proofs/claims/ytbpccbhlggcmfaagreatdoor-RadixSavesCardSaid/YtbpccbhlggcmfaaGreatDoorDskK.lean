/- New, Sync, Read and the small questions. Conditions: the numbers are no greater than a program's may be. · The chapter's example returns true. No condition. -/
import Derived.Test.YtbpccbhlggcmfaaGreatDoorDskB
import Derived.Lib.SlBytesConst
namespace Go.Proofs.YtbpccbhlggcmfaaGreatDoor
open Go.RowKit
open Go.Maps

def St.new (room : Int) : St := ⟨max 0 (min room 16777216), [], [], -1, false, 0⟩
def St.sync (s : St) : Int × St := if s.dead = true then (7, s) else if s.fuse = 0 then (7, { s with dead := true }) else (0, { s with kept := s.files, pend := [], fuse := if 0 < s.fuse then s.fuse - 1 else s.fuse, works := s.works + 1 })
def NewPost (w : World) (room : Int) (e : Ending) (w' : World) : Prop := ∃ b S, e = .returned (.pointer (some ⟨b, 0, none⟩)) ∧ DS w' w.heap.size b S (St.new room) ∧ Below w.heap.size w w' ∧ ∀ k, S k → w.heap.size ≤ k
set_option maxRecDepth 20000 in
set_option maxHeartbeats 1000000 in
theorem new_to (w : World) (room : Int) : Calls Tryz.prog 7 #[.int .i64 room] w (NewPost w room) := by
  have hmk := run_makeMap (P := Tryz.prog) 67 w
  go_enter Tryz.func7, Tryz.ntmps7
  go_wp2_with fail
  go_ret
  obtain ⟨r, hr⟩ : ∃ r, r = max 0 (min room 16777216) := ⟨_, rfl⟩
  have hr0 : 0 ≤ r ∧ r ≤ 16777216 := by omega
  have hd : DAt ((w.alloc (.map #[] 0)).alloc (.cells #[.int .i64 r, .map (some w.heap.size), .int .i64 0, .slice none 0 0, .int .i64 (-1), .bool false, .int .i64 0] 70)) (w.heap.size + 1) ⟨r, w.heap.size, 0, .slice none 0 0, -1, false, 0⟩ := by
    have := heap_alloc_last (w.alloc (.map #[] 0)) (.cells #[.int .i64 r, .map (some w.heap.size), .int .i64 0, .slice none 0 0, .int .i64 (-1), .bool false, .int .i64 0] 70)
    rw [show (w.alloc (.map #[] 0)).heap.size = w.heap.size + 1 from by simp] at this
    exact this
  have hm : MAt ((w.alloc (.map #[] 0)).alloc (.cells #[.int .i64 r, .map (some w.heap.size), .int .i64 0, .slice none 0 0, .int .i64 (-1), .bool false, .int .i64 0] 70)) w.heap.size [] := (World.ownsMap_made w Tryz.prog 9 rdv).alloc _
  refine ⟨w.heap.size + 1, fun k => k = w.heap.size + 1 ∨ k = w.heap.size, ?_, ?_, ?_, ?_⟩
  · simp
  · unfold St.new
    rw [← hr]
    refine ⟨_, [], [], {
      dc := { d := hd, m := hm, p := World.ownsRow_nil _ _ _ _, own := ⟨fun _ h => (by cases h), fun _ h => (by cases h)⟩, sep := fun k => (by simp [cnt, cntL, cntP, asum]), asc := AAsc.nil, used := rfl, bb := by omega, bm := Nat.le_refl _, many := by simp }
      hist := ⟨AAsc.nil, by simp [totF, asum], Nat.le_refl _⟩
      fb := rfl, room := rfl, fuse := rfl, dead := rfl, works := rfl, room0 := hr0, pl := Nat.le_refl _
      lt := fun k hk => (by rcases hk with rfl | rfl <;> simp <;> omega)
      foot := fun k hk => ?_ }⟩
    rcases hk with e | e | e | e
    · exact .inl e
    · exact .inr e
    · simp [Value.ownBlock] at e
    · simp [cnt, cntL, cntP, asum] at e
  · exact ((Below.refl _ w).alloc (Nat.le_refl _) _).alloc (by simp) _
  · rintro k (rfl | rfl) <;> omega

def SyncPost (w : World) (B b : Nat) (S : Nat → Prop) (r : Int × St) (e : Ending) (w' : World) : Prop := e = .returned (enoOf r.1) ∧ DPost w B b S r.2 w'
/-- What Read returns. -/
def ReadPost (w : World) (n : Key) (s : St) (e : Ending) (w' : World) : Prop :=
  ∃ v, e = .returned (.tuple #[v, .bool (if s.dead = true then false else (aget n s.files).isSome)]) ∧ BOwn w' w.heap.size v (if s.dead = true then [] else fbytes n s.files) ∧ Below w.heap.size w w'
set_option maxRecDepth 20000 in
set_option maxHeartbeats 1000000 in
theorem read_to (w : World) (B b : Nat) (S : Nat → Prop) (s : St) (n : Key) (h : DS w B b S s) (hn : n.length ≤ maxLen) :
    Calls Tryz.prog 23 #[.pointer (some ⟨b,0,none⟩), stv n] w (ReadPost w n s) := by
  obtain ⟨c, L, P, hx⟩ := h
  have c5 := hx.dc.d.c5
  have c1 := hx.dc.d.c1
  rw [hx.dead] at c5
  by_cases hd : s.dead = true
  · rw [hd] at c5
    have HD := Lib.hid hd
    clear hx hd
    go_enter Tryz.func23, Tryz.ntmps23
    go_wp2_with fail
    go_ret2
    refine ⟨.slice none 0 0, ?_, ?_, Below.refl _ _⟩
    · rw [HD.out]; rfl
    · rw [if_pos HD.out]; exact World.ownsRow_nil _ _ _ _
  · have hd' : s.dead = false := by simpa using hd
    rw [hd'] at c5
    obtain ⟨p2, cap2, hv2⟩ := hx.dc.own.shp.at n
    have hlk : (Instr.lookup 67 (.map (some c.mb)) (stv n) true).run Tryz.prog w = .ok (.tuple #[.slice p2 (bytesAt n L).length cap2, .bool (aget n L).isSome]) w := by
      rw [← hv2]; exact hx.dc.m.lookOk n hn
    have hl : (bytesAt n L).length ≤ 140737488351232 := by
      have h1 := bytesAt_le n L
      have h2 := hx.hist.last.tot
      rw [← hx.fb, fb_tot] at h2
      omega
    have HC := Lib.hid (clone_any w (.slice p2 (bytesAt n L).length cap2) (bytesAt n L) hl (by rw [← hv2]; exact Seen.own (hx.dc.own.at n)))
    have HF : Hid (s.files = fb L) := Lib.hid hx.fb.symm
    have HD := Lib.hid hd
    clear hx hd hv2
    go_enter Tryz.func23, Tryz.ntmps23
    go_wp2_with fail
    refine HC.out.mono ?_
    rintro e w2 ⟨v, rfl, o2, b2⟩
    have O2 : Hid (BOwn w2 w.heap.size v (bytesAt n L)) := Lib.hid o2
    have B2 := Lib.hid b2
    clear o2 b2
    go_wp2_with fail
    go_ret2
    refine ⟨v, ?_, ?_, B2.out⟩
    · rw [if_neg HD.out, HF.out, fb_some]; rfl
    · rw [if_neg HD.out, HF.out, fb_bytes]; exact O2.out
end Go.Proofs.YtbpccbhlggcmfaaGreatDoor
namespace Go.Proofs.YtbpccbhlggcmfaaGreatDoor
open Go.RowKit
open Go.Maps

theorem conv_own {w : World} {B : Nat} {v : Value} {l : List Int} (h : BOwn w B v l) : (convert 71 9 v).run Tryz.prog w = .ok (.string (strOfNums l)) w := by
  have hs := Seen.own h
  rcases h.2 with ⟨rfl, h0⟩ | ⟨g, cap, cur, rfl, _⟩
  · obtain rfl : l = [] := List.eq_nil_of_length_eq_zero h0
    exact run_convert_bytes_nil w _ _ Tryz.underlying71 Tryz.underlying5 0 0 _ Tryz.underlying9
  · rcases hs with ⟨h1, _⟩ | ⟨a, cap', h1, hc, hu⟩
    · cases h1
    · cases h1
      refine run_convert_bytes_arg w _ _ Tryz.underlying71 Tryz.underlying5 g 0 _ cap l rfl (fun i hi => ?_) _ Tryz.underlying9
      have := hu i _ (show (us l)[i]? = some (.int .u8 (l.getD i 0)) from by simp [us, List.getElem?_map, List.getD, List.getElem?_eq_getElem hi])
      rwa [Addr.add_lit] at this
theorem seen_lit2 (w : World) (l : List Int) (n c : Nat) (hn : l.length = n) (hc : n ≤ c) (e : TypeId) (fr : Nat × Nat) (b : Nat) (hb : b = w.heap.size) : Seen (w.alloc (.cells (us l).toArray e fr)) (.slice (some ⟨b, 0, none⟩) n c) l := by
  subst hb
  subst hn
  refine .inr ⟨⟨w.heap.size, 0, none⟩, c, rfl, hc, fun j u h => ?_⟩
  rw [Addr.add_lit, Nat.zero_add, World.cell?_alloc_mark w _ e fr j]
  simpa using h
theorem DS.lt {w : World} {B b : Nat} {S : Nat → Prop} {s : St} (h : DS w B b S s) : ∀ k, S k → k < w.heap.size := by
  obtain ⟨c, L, P, h⟩ := h
  exact h.lt
def ks0 : St := St.new 100
theorem ka1 : (ks0.append [102] [97, 98, 99]).1 = 0 := by decide +kernel
def ks1 : St := (ks0.append [102] [97, 98, 99]).2
def ks2 : St := ks1.crash 0 2
theorem ka2 : ks1.works ≤ 1000000000 := by decide +kernel
theorem ka3 : fbytes [102] ks2.files = [97, 98] ∧ (aget [102] ks2.files).isSome = true ∧ ks2.dead = false ∧ ks2.pend.length = 0 ∧ ks2.works = 1 := by decide +kernel
end Go.Proofs.YtbpccbhlggcmfaaGreatDoor
