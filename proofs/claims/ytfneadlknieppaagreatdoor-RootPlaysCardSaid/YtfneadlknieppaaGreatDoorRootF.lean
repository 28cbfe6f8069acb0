/- Saving a root and falling, as plain mathematics: what the files hold wherever a crash occurs. No condition. · All that a disk holds are bytes, through every call; the numbers stay small: plain mathematics. No condition. · Roots as bytes: the encoding, and that it tells a root from each other. No condition. · What a raw root makes; how what is loaded stands to what was saved: plain mathematics. No condition. -/
import Derived.Test.YtfneadlknieppaaGreatDoorDskE
import Derived.Test.YtfneadlknieppaaGreatDoorLogC
import Derived.Test.YtfneadlknieppaaGreatDoorOctEnc
import Derived.Test.YtfneadlknieppaaGreatDoorOctMath
namespace Go.Proofs.YtfneadlknieppaaGreatDoor
open Go.RowKit
open Go.Maps

def rtN : Key := [114, 111, 111, 116]
def nwN : Key := [114, 111, 111, 116, 46, 110, 101, 119]
/-- Is there such a file, as Read tells. -/
def ex (s : St) (n : Key) : Bool := if s.dead = true then false else (aget n s.files).isSome
def rdS (s : St) (n : Key) : List Int := if s.dead = true then [] else fbytes n s.files
/-- One call behind another, where the first went well. -/
def seqS (q : Int × St) (f : St → Int × St) : Int × St := if q.1 = 0 then f q.2 else q
/-- The calls on the disk of one saving. -/
def saveS (s : St) (b : List Int) : Int × St :=
  seqS (seqS (seqS (seqS (if ex s nwN = true then s.remove nwN else (0, s)) fun s => s.append nwN b) St.sync) fun s => s.rename nwN rtN) St.sync
theorem rt_ne : rtN ≠ nwN := by decide
theorem olen_fb (n : Key) (F : Fil) : olen List.length (aget n F) = (fbytes n F).length := by
  unfold fbytes
  cases aget n F <;> rfl
/-- The files between savings: root's bytes are o; root.new may hold what a saving left. -/
structure Gf (F : Fil) (o : Option (List Int)) : Prop where
  asc : AAsc F
  rt : aget rtN F = o
  only : ∀ n, (aget n F).isSome = true → n = rtN ∨ n = nwN
  s1 : (fbytes rtN F).length ≤ 200
  s2 : (fbytes nwN F).length ≤ 200
section
variable {F : Fil} {o : Option (List Int)} {b : List Int}
theorem Gf.nil : Gf [] none := ⟨AAsc.nil, rfl, fun n h => by simp [aget] at h, by simp [fbytes, aget], by simp [fbytes, aget]⟩
theorem Gf.tot (h : Gf F o) : totF F = (fbytes rtN F).length + (fbytes nwN F).length := by
  have h1 := asum_del List.length nwN h.asc
  have h2 := asum_del List.length rtN (h.asc.del nwN)
  have h3 : adel rtN (adel nwN F) = [] := by
    rw [List.eq_nil_iff_forall_not_mem]
    rintro ⟨n, a⟩ hm
    obtain ⟨hm1, hn1⟩ := (adel_mem rtN _ _).1 hm
    obtain ⟨hm2, hn2⟩ := (adel_mem nwN _ _).1 hm1
    have := aget_of_mem h.asc hm2
    rcases h.only n (by rw [this]; rfl) with e | e
    · exact hn1 e
    · exact hn2 e
  rw [h3, aget_del_other nwN rtN rt_ne] at h2
  rw [olen_fb] at h1 h2
  have h4 : asum List.length ([] : Fil) = 0 := rfl
  unfold totF
  omega
theorem Gf.rm (h : Gf F o) : Gf (adel nwN F) o where
  asc := h.asc.del _
  rt := by rw [aget_del_other nwN rtN rt_ne]; exact h.rt
  only := fun n hn => by
    by_cases e : n = nwN
    · exact .inr e
    · rw [aget_del_other nwN n e] at hn; exact h.only n hn
  s1 := by rw [fbytes_del_other nwN rtN rt_ne]; exact h.s1
  s2 := by unfold fbytes; rw [aget_del_same]; simp
theorem Gf.app (h : Gf F o) (hn : aget nwN F = none) {x : List Int} (hx : x.length ≤ 200) : Gf (aput nwN (fbytes nwN F ++ x) F) o where
  asc := h.asc.put _ _
  rt := by rw [aget_put_other nwN rtN _ rt_ne]; exact h.rt
  only := fun n hn => by
    by_cases e : n = nwN
    · exact .inr e
    · rw [aget_put_other nwN n _ e] at hn; exact h.only n hn
  s1 := by rw [fbytes_put_other nwN rtN _ rt_ne]; exact h.s1
  s2 := by
    have : fbytes nwN F = [] := by unfold fbytes; rw [hn]; rfl
    rw [fbytes_put_same, this]; exact hx
theorem Gf.ren (h : Gf F o) (hn : aget nwN F = some b) : Gf (aput rtN (fbytes nwN F) (adel nwN F)) (some b) ∧ aget nwN (aput rtN (fbytes nwN F) (adel nwN F)) = none := by
  have hb : fbytes nwN F = b := by unfold fbytes; rw [hn]; rfl
  have h9 : aget nwN (aput rtN (fbytes nwN F) (adel nwN F)) = none := by rw [aget_put_other rtN nwN _ rt_ne.symm, aget_del_same]
  refine ⟨⟨(h.asc.del _).put _ _, by rw [aget_put_same, hb], fun n hn => ?_, by rw [fbytes_put_same]; exact h.s2, by unfold fbytes at h9 ⊢; rw [h9]; simp⟩, h9⟩
  by_cases e : n = rtN
  · exact .inl e
  · rw [aget_put_other rtN n _ e] at hn
    by_cases e2 : n = nwN
    · exact .inr e2
    · rw [aget_del_other nwN n e2] at hn; exact h.only n hn
end
abbrev kRm : Wk := ⟨3, nwN, [], [], 0⟩
abbrev kAp (b : List Int) : Wk := ⟨0, nwN, [], b, 0⟩
abbrev kRn : Wk := ⟨2, nwN, rtN, [], 0⟩
/-- Wherever it falls, root's bytes are o's or b's. -/
def Cr (K : Fil) (P : List Wk) (o : Option (List Int)) (b : List Int) : Prop := ∀ d cut, Gf (crashF K P d cut) o ∨ Gf (crashF K P d cut) (some b)
section
variable {K : Fil} {o : Option (List Int)} {b : List Int}
theorem cr_nil (h : Gf K o) : Cr K [] o b := fun d cut => .inl (by
  have : crashF K [] d cut = K := by unfold crashF; simp [run]
  rw [this]; exact h)
theorem part_ap (h : Gf K o) (hn : aget nwN K = none) (hb : b.length ≤ 200) (cut : Int) : Gf (part K (kAp b) cut) o := by
  unfold part
  rw [if_pos rfl]
  split
  · exact h
  · exact h.app hn (by rw [List.length_take]; exact Nat.le_trans (Nat.min_le_right _ _) hb)
theorem run_ap (h : Gf K o) (hn : aget nwN K = none) (hb : b.length ≤ 200) : Gf (turn K (kAp b)) o ∧ aget nwN (turn K (kAp b)) = some b := by
  have e : turn K (kAp b) = aput nwN (fbytes nwN K ++ b) K := rfl
  have h0 : fbytes nwN K = [] := by unfold fbytes; rw [hn]; rfl
  rw [e]
  exact ⟨h.app hn hb, by rw [aget_put_same, h0, List.nil_append]⟩
theorem run_rm (h : Gf K o) : Gf (turn K kRm) o ∧ aget nwN (turn K kRm) = none := by
  have e : turn K kRm = adel nwN K := rfl
  rw [e]
  exact ⟨h.rm, aget_del_same _ _⟩
theorem cr_ap (h : Gf K o) (hn : aget nwN K = none) (hb : b.length ≤ 200) : Cr K [kAp b] o b := fun d cut => .inl (by
  match d with
  | 0 => exact part_ap h hn hb cut
  | d + 1 =>
    have : crashF K [kAp b] (d + 1) cut = turn K (kAp b) := by unfold crashF; simp [run]
    rw [this]; exact (run_ap h hn hb).1)
theorem cr_rm (h : Gf K o) : Cr K [kRm] o b := fun d cut => .inl (by
  match d with
  | 0 =>
    have : crashF K [kRm] 0 cut = K := by unfold crashF part; simp [run]
    rw [this]; exact h
  | d + 1 =>
    have : crashF K [kRm] (d + 1) cut = turn K kRm := by unfold crashF; simp [run]
    rw [this]; exact (run_rm h).1)
theorem cr_rm_ap (h : Gf K o) (hb : b.length ≤ 200) : Cr K [kRm, kAp b] o b := fun d cut => .inl (by
  match d with
  | 0 =>
    have : crashF K [kRm, kAp b] 0 cut = K := by unfold crashF part; simp [run]
    rw [this]; exact h
  | 1 =>
    have : crashF K [kRm, kAp b] 1 cut = part (turn K kRm) (kAp b) cut := by unfold crashF; simp [run]
    rw [this]; exact part_ap (run_rm h).1 (run_rm h).2 hb cut
  | d + 2 =>
    have : crashF K [kRm, kAp b] (d + 2) cut = turn (turn K kRm) (kAp b) := by unfold crashF; simp [run]
    rw [this]; exact (run_ap (run_rm h).1 (run_rm h).2 hb).1)
theorem cr_rn (h : Gf K o) (hn : aget nwN K = some b) : Cr K [kRn] o b := fun d cut => by
  match d with
  | 0 =>
    have : crashF K [kRn] 0 cut = K := by unfold crashF part; simp [run]
    rw [this]; exact .inl h
  | d + 1 =>
    have : crashF K [kRn] (d + 1) cut = aput rtN (fbytes nwN K) (adel nwN K) := by unfold crashF; simp [run, turn]
    rw [this]; exact .inr (h.ren hn).1
end
/-- A disk that lives: what is kept, what pends. -/
structure Md (s : St) (K : Fil) (P : List Wk) : Prop where
  alive : s.dead = false
  kept : s.kept = K
  pend : s.pend = P
  room : s.room = 100000
/-- Behind a call at which it fell. -/
structure Fl (q : Int × St) (K : Fil) (P : List Wk) : Prop where
  err : q.1 = 7
  dead : q.2.dead = true
  kept : q.2.kept = K
  pend : q.2.pend = P
  room : q.2.room = 100000
section
variable {s : St} {K : Fil} {P : List Wk} {q : Int × St} {f : St → Int × St}
theorem Fl.seq (h : Fl q K P) : Fl (seqS q f) K P := by
  unfold seqS
  rw [if_neg (by rw [h.err]; decide)]
  exact h
theorem seq_ok (h : q.1 = 0) : seqS q f = f q.2 := if_pos h
theorem Md.files (h : Md s K P) : s.files = run K P := by unfold St.files; rw [h.kept, h.pend]
theorem Md.work (h : Md s K P) (k : Wk) : Fl (s.work k) K P ∨ ((s.work k).1 = 0 ∧ Md (s.work k).2 K (P ++ [k])) := by
  unfold St.work
  split
  · exact .inl ⟨rfl, rfl, h.kept, h.pend, h.room⟩
  · exact .inr ⟨rfl, h.alive, h.kept, by show s.pend ++ [k] = _; rw [h.pend], h.room⟩
theorem Md.sync (h : Md s K P) : Fl s.sync K P ∨ (s.sync.1 = 0 ∧ Md s.sync.2 (run K P) []) := by
  unfold St.sync
  rw [if_neg (by rw [h.alive]; decide)]
  split
  · exact .inl ⟨rfl, rfl, h.kept, h.pend, h.room⟩
  · exact .inr ⟨rfl, h.alive, h.files, rfl, h.room⟩
end
/-- The disk between savings. -/
def Hd (s : St) (o : Option (List Int)) : Prop := ∃ K, Md s K [] ∧ Gf K o
theorem Hd.new : Hd (St.new 100000) none := ⟨[], ⟨rfl, rfl, rfl, by decide⟩, Gf.nil⟩
theorem Hd.setFuse {s : St} {o : Option (List Int)} (h : Hd s o) (n : Int) : Hd { s with fuse := n } o := by
  obtain ⟨K, h1, h2⟩ := h
  exact ⟨K, ⟨h1.alive, h1.kept, h1.pend, h1.room⟩, h2⟩
theorem crash_md (s : St) (a cut : Int) (hr : s.room = 100000) : Md (s.crash a cut) (crashF s.kept s.pend (a % ((s.pend.length : Int) + 1)).toNat cut) [] := ⟨rfl, rfl, rfl, hr⟩
theorem Hd.crash {s : St} {o : Option (List Int)} (h : Hd s o) (a cut : Int) : Hd (s.crash a cut) o := by
  obtain ⟨K, h1, h2⟩ := h
  refine ⟨_, crash_md s a cut h1.room, ?_⟩
  rw [h1.kept, h1.pend]
  have : ∀ d, crashF K [] d cut = K := fun d => by unfold crashF; simp [run]
  rw [this]
  exact h2
/-- What Load finds. -/
theorem Hd.load {s : St} {o : Option (List Int)} (h : Hd s o) : ex s rtN = o.isSome ∧ rdS s rtN = o.getD [] := by
  obtain ⟨K, h1, h2⟩ := h
  unfold ex rdS fbytes
  have hf : s.files = K := by rw [h1.files]; rfl
  rw [if_neg (by rw [h1.alive]; decide), if_neg (by rw [h1.alive]; decide), hf, h2.rt]
  exact ⟨rfl, rfl⟩
/-- A saving that fell leaves the old root or the new one, wherever the crash occurs; one that did not is saved: whatever pends. -/
theorem save_gen {s : St} {K : Fil} {P0 : List Wk} {o : Option (List Int)} {b : List Int} (hm : Md s K P0) (hg : Gf (run K P0) o) (hb : b.length ≤ 200) (hc0 : Cr K P0 o b)
    (hy : (aget nwN (run K P0)).isSome = true → Cr K (P0 ++ [kRm]) o b ∧ Cr K (P0 ++ [kRm] ++ [kAp b]) o b) (hno : aget nwN (run K P0) = none → Cr K (P0 ++ [kAp b]) o b) :
    (∃ K P, Fl (saveS s b) K P ∧ Cr K P o b) ∨ ((saveS s b).1 = 0 ∧ Hd (saveS s b).2 (some b) ∧ aget nwN (saveS s b).2.kept = none) := by
  have hf : s.files = run K P0 := hm.files
  have h1 : (∃ P, Fl (if ex s nwN = true then s.remove nwN else (0, s)) K P ∧ Cr K P o b) ∨
      ∃ P, (if ex s nwN = true then s.remove nwN else (0, s)).1 = 0 ∧ Md (if ex s nwN = true then s.remove nwN else (0, s)).2 K P ∧ Cr K P o b ∧ Cr K (P ++ [kAp b]) o b ∧ Gf (run K P) o ∧ aget nwN (run K P) = none := by
    have hex : ex s nwN = (aget nwN (run K P0)).isSome := by unfold ex; rw [if_neg (by rw [hm.alive]; decide), hf]
    rw [hex]
    by_cases hn : (aget nwN (run K P0)).isSome = true
    · rw [if_pos hn]
      have hr : s.remove nwN = s.work kRm := by
        unfold St.remove
        rw [if_neg (by decide), if_neg (by rw [hm.alive]; decide), if_neg (by rw [hf, hn]; decide)]
      rw [hr]
      rcases hm.work kRm with hh | ⟨h0, hh⟩
      · exact .inl ⟨P0, hh, hc0⟩
      · refine .inr ⟨P0 ++ [kRm], h0, hh, (hy hn).1, (hy hn).2, ?_, ?_⟩
        · rw [run_snoc]; exact (run_rm hg).1
        · rw [run_snoc]; exact (run_rm hg).2
    · have hn0 : aget nwN (run K P0) = none := by cases hx : aget nwN (run K P0) <;> simp_all
      rw [if_neg hn]
      exact .inr ⟨P0, rfl, hm, hc0, hno hn0, hg, hn0⟩
  unfold saveS
  generalize (if ex s nwN = true then s.remove nwN else (0, s)) = q1 at h1 ⊢
  rcases h1 with ⟨P, h1, hc⟩ | ⟨P, h10, h1, hc1, hc2, hg1, hn1⟩
  · exact .inl ⟨K, P, h1.seq.seq.seq.seq, hc⟩
  rw [seq_ok (q := q1) h10]
  have h2 : q1.2.append nwN b = q1.2.work (kAp b) := by
    unfold St.append
    have hu : q1.2.used = (fbytes rtN (run K P)).length := by
      have h9 : fbytes nwN (run K P) = [] := by unfold fbytes; rw [hn1]; rfl
      show totF q1.2.files = _
      rw [h1.files, hg1.tot, h9]; simp
    have hs := hg1.s1
    rw [if_neg (by decide), if_neg (by rw [h1.alive]; decide), if_neg (by rw [h1.room, hu]; omega)]
  simp only [h2]
  rcases h1.work (kAp b) with hh | ⟨h20, hm2⟩
  · exact .inl ⟨K, P, hh.seq.seq.seq, hc1⟩
  rw [seq_ok (q := q1.2.work (kAp b)) h20]
  generalize (q1.2.work (kAp b)).2 = s2 at *
  have hr2 : run K (P ++ [kAp b]) = turn (run K P) (kAp b) := run_snoc _ _ _
  obtain ⟨hg2, hn2⟩ := run_ap hg1 hn1 hb
  rcases hm2.sync with hh | ⟨h30, hm3⟩
  · exact .inl ⟨K, P ++ [kAp b], hh.seq.seq, hc2⟩
  rw [seq_ok (q := s2.sync) h30]
  rw [hr2] at hm3
  generalize turn (run K P) (kAp b) = K3 at *
  generalize s2.sync.2 = s3 at *
  have hf3 : s3.files = K3 := by rw [hm3.files]; rfl
  have h4 : s3.rename nwN rtN = s3.work kRn := by
    unfold St.rename
    rw [if_neg (by decide), if_neg (by rw [hm3.alive]; decide), if_neg (by rw [hf3, hn2]; simp)]
  simp only [h4]
  rcases hm3.work kRn with hh | ⟨h40, hm4⟩
  · exact .inl ⟨K3, [], hh.seq, cr_nil hg2⟩
  rw [seq_ok (q := s3.work kRn) h40]
  rcases hm4.sync with hh | ⟨h50, hm5⟩
  · exact .inl ⟨K3, [kRn], hh, cr_rn hg2 hn2⟩
  have hr5 : run K3 ([] ++ [kRn]) = aput rtN (fbytes nwN K3) (adel nwN K3) := rfl
  rw [hr5] at hm5
  exact .inr ⟨h50, ⟨_, hm5, (hg2.ren hn2).1⟩, by rw [hm5.kept]; exact (hg2.ren hn2).2⟩
theorem save_cases {s : St} {o : Option (List Int)} {b : List Int} (h : Hd s o) (hb : b.length ≤ 200) :
    (∃ K P, Fl (saveS s b) K P ∧ Cr K P o b) ∨ ((saveS s b).1 = 0 ∧ Hd (saveS s b).2 (some b) ∧ aget nwN (saveS s b).2.kept = none) := by
  obtain ⟨K, hm, hg⟩ := h
  exact save_gen hm hg hb (cr_nil hg) (fun _ => ⟨cr_rm hg, cr_rm_ap hg hb⟩) (fun hn => cr_ap hg hn hb)
/-- A saving behind an appending to root.new that pends. -/
theorem save_left {s : St} {K : Fil} {o : Option (List Int)} {b x : List Int} (hm : Md s K [kAp x]) (hg : Gf K o) (hn : aget nwN K = none) (hx : x.length ≤ 200) (hb : b.length ≤ 200) :
    (∃ K P, Fl (saveS s b) K P ∧ Cr K P o b) ∨ ((saveS s b).1 = 0 ∧ Hd (saveS s b).2 (some b) ∧ aget nwN (saveS s b).2.kept = none) := by
  obtain ⟨g1, n1⟩ := run_ap hg hn hx
  obtain ⟨g2, n2⟩ := run_rm g1
  obtain ⟨g3, n3⟩ := run_ap g2 n2 hb
  have hr : run K [kAp x] = turn K (kAp x) := rfl
  refine save_gen hm (by rw [hr]; exact g1) hb (fun d cut => .inl ?_) (fun _ => ⟨fun d cut => .inl ?_, fun d cut => .inl ?_⟩) (fun h => by rw [hr, n1] at h; cases h)
  · match d with
    | 0 => exact part_ap hg hn hx cut
    | d + 1 =>
      have : crashF K [kAp x] (d + 1) cut = turn K (kAp x) := by unfold crashF; simp [run]
      rw [this]; exact g1
  · match d with
    | 0 => exact part_ap hg hn hx cut
    | 1 =>
      have : crashF K ([kAp x] ++ [kRm]) 1 cut = turn K (kAp x) := by unfold crashF part; simp [run]
      rw [this]; exact g1
    | d + 2 =>
      have : crashF K ([kAp x] ++ [kRm]) (d + 2) cut = turn (turn K (kAp x)) kRm := by unfold crashF; simp [run]
      rw [this]; exact g2
  · match d with
    | 0 => exact part_ap hg hn hx cut
    | 1 =>
      have : crashF K ([kAp x] ++ [kRm] ++ [kAp b]) 1 cut = turn K (kAp x) := by unfold crashF part; simp [run]
      rw [this]; exact g1
    | 2 =>
      have : crashF K ([kAp x] ++ [kRm] ++ [kAp b]) 2 cut = part (turn (turn K (kAp x)) kRm) (kAp b) cut := by unfold crashF; simp [run]
      rw [this]; exact part_ap g2 n2 hb cut
    | d + 3 =>
      have : crashF K ([kAp x] ++ [kRm] ++ [kAp b]) (d + 3) cut = turn (turn (turn K (kAp x)) kRm) (kAp b) := by unfold crashF; simp [run]
      rw [this]; exact g3
/-- A disk with no fuse does not fall. -/
structure Nf (q : Int × St) : Prop where
  err : q.1 ≠ 7
  fuse : q.2.fuse < 0
  alive : q.2.dead = false
section
variable {s : St} {q : Int × St}
theorem Nf.seq {f : St → Int × St} (h : Nf q) (hf : ∀ s : St, s.fuse < 0 → s.dead = false → Nf (f s)) : Nf (seqS q f) := by
  unfold seqS
  split
  · exact hf _ h.fuse h.alive
  · exact h
theorem nf_work (h1 : s.fuse < 0) (h2 : s.dead = false) (k : Wk) : Nf (s.work k) := by
  unfold St.work
  rw [if_neg (by omega)]
  refine ⟨(by show (0 : Int) ≠ 7; decide), ?_, h2⟩
  show (if 0 < s.fuse then s.fuse - 1 else s.fuse) < 0
  rw [if_neg (by omega)]
  exact h1
theorem nf_sync (h1 : s.fuse < 0) (h2 : s.dead = false) : Nf s.sync := by
  unfold St.sync
  rw [if_neg (by rw [h2]; decide), if_neg (by omega)]
  refine ⟨(by show (0 : Int) ≠ 7; decide), ?_, h2⟩
  show (if 0 < s.fuse then s.fuse - 1 else s.fuse) < 0
  rw [if_neg (by omega)]
  exact h1
theorem nf_same (h1 : s.fuse < 0) (h2 : s.dead = false) {c : Int} (hc : c ≠ 7) : Nf (c, s) := ⟨hc, h1, h2⟩
theorem nf_remove (h1 : s.fuse < 0) (h2 : s.dead = false) (n : Key) : Nf (s.remove n) := by
  unfold St.remove
  rw [if_neg (show ¬ s.dead = true by rw [h2]; decide)]
  repeat' split
  all_goals first | exact nf_work h1 h2 _ | exact nf_same h1 h2 (by decide)
theorem nf_append (h1 : s.fuse < 0) (h2 : s.dead = false) (n : Key) (l : List Int) : Nf (s.append n l) := by
  unfold St.append
  rw [if_neg (show ¬ s.dead = true by rw [h2]; decide)]
  repeat' split
  all_goals first | exact nf_work h1 h2 _ | exact nf_same h1 h2 (by decide)
theorem nf_rename (h1 : s.fuse < 0) (h2 : s.dead = false) (n m : Key) : Nf (s.rename n m) := by
  unfold St.rename
  rw [if_neg (show ¬ s.dead = true by rw [h2]; decide)]
  repeat' split
  all_goals first | exact nf_work h1 h2 _ | exact nf_same h1 h2 (by decide)
theorem nf_save (h1 : s.fuse < 0) (h2 : s.dead = false) (b : List Int) : Nf (saveS s b) := by
  have h0 : Nf (if ex s nwN = true then s.remove nwN else (0, s)) := by
    split
    · exact nf_remove h1 h2 _
    · exact nf_same h1 h2 (by decide)
  exact (((h0.seq fun s a c => nf_append a c _ _).seq fun s a c => nf_sync a c).seq fun s a c => nf_rename a c _ _).seq fun s a c => nf_sync a c
end
/-- A saving with no fuse goes well. -/
theorem save_ok {s : St} {o : Option (List Int)} {b : List Int} (h : Hd s o) (hb : b.length ≤ 200) (hf : s.fuse < 0) : (saveS s b).1 = 0 ∧ Hd (saveS s b).2 (some b) ∧ aget nwN (saveS s b).2.kept = none ∧ (saveS s b).2.fuse < 0 := by
  have hal : s.dead = false := by obtain ⟨K, hm, _⟩ := h; exact hm.alive
  have hn := nf_save hf hal b
  rcases save_cases h hb with ⟨K, P, h1, _⟩ | ⟨h1, h2, h3⟩
  · exact absurd h1.err hn.err
  · exact ⟨h1, h2, h3, hn.fuse⟩
/-- The names of the files, where root alone is left. -/
theorem Gf.names {F : Fil} {b : List Int} (h : Gf F (some b)) (hn : aget nwN F = none) : F = [(rtN, b)] := by
  have hm := aget_mem h.rt
  have hall : ∀ e ∈ F, e = (rtN, b) := fun ⟨n, a⟩ he => by
    have h1 := aget_of_mem h.asc he
    rcases h.only n (by rw [h1]; rfl) with e | e
    · subst e
      rw [h.rt] at h1
      simp only [Option.some.injEq] at h1
      rw [h1]
    · rw [e, hn] at h1; cases h1
  match F, h.asc, hm, hall with
  | [x], _, _, hall => rw [hall x List.mem_cons_self]
  | x :: y :: r, hasc, _, hall =>
    have hp := (List.pairwise_cons.1 hasc).1 y List.mem_cons_self
    rw [hall x List.mem_cons_self, hall y (List.mem_cons_of_mem _ List.mem_cons_self), bb_irrefl] at hp
    cases hp
/-- Behind a crash of a saving that fell. -/
theorem Fl.crash {q : Int × St} {K : Fil} {P : List Wk} {o : Option (List Int)} {b : List Int} (h : Fl q K P) (hc : Cr K P o b) (a cut : Int) : Hd (q.2.crash a cut) o ∨ Hd (q.2.crash a cut) (some b) := by
  have hm := crash_md q.2 a cut h.room
  rw [h.kept, h.pend] at hm
  rcases hc (a % ((P.length : Int) + 1)).toNat cut with hh | hh
  · exact .inl ⟨_, hm, hh⟩
  · exact .inr ⟨_, hm, hh⟩
end Go.Proofs.YtfneadlknieppaaGreatDoor
namespace Go.Proofs.YtfneadlknieppaaGreatDoor
open Go.RowKit
open Go.Maps

def OkL (F : Fil) : Prop := ∀ p ∈ F, Okb p.2
section
variable {F : Fil}
theorem OkL.nil : OkL [] := fun _ h => by cases h
theorem OkL.fb (h : OkL F) (n : Key) : Okb (fbytes n F) := by
  unfold fbytes
  cases hg : aget n F with
  | none => exact Okb.nil
  | some a => exact h _ (aget_mem hg)
theorem OkL.del (h : OkL F) (n : Key) : OkL (adel n F) := fun p hp => h p ((adel_mem n F p).1 hp).1
theorem OkL.put (h : OkL F) (n : Key) {xs : List Int} (hx : Okb xs) : OkL (aput n xs F) := fun p hp => by
  rcases (ains_mem _ _ _).1 hp with rfl | hp
  · exact hx
  · exact h.del n p hp
theorem OkL.turn (h : OkL F) {k : Wk} (hk : Okb k.bs) : OkL (turn F k) := by
  unfold Go.Proofs.YtfneadlknieppaaGreatDoor.turn
  split
  · exact h.put _ ((h.fb _).app hk)
  · split
    · exact h.put _ ((h.fb _).take _)
    · split
      · exact (h.del _).put _ (h.fb _)
      · exact h.del _
theorem OkL.run : ∀ (ks : List Wk) {F : Fil}, OkL F → (∀ k ∈ ks, Okb k.bs) → OkL (run F ks)
  | [], _, h, _ => h
  | k :: ks, F, h, hk => OkL.run ks (F := Go.Proofs.YtfneadlknieppaaGreatDoor.turn F k) (h.turn (hk k List.mem_cons_self)) (fun j hj => hk j (List.mem_cons_of_mem _ hj))
theorem OkL.part (h : OkL F) {k : Wk} (hk : Okb k.bs) (cut : Int) : OkL (part F k cut) := by
  unfold Go.Proofs.YtfneadlknieppaaGreatDoor.part
  split
  · split
    · exact h
    · exact h.put _ ((h.fb _).app (hk.take _))
  · exact h
end
/-- All that a disk holds are bytes. -/
structure OkT (s : St) : Prop where
  kept : OkL s.kept
  pend : ∀ k ∈ s.pend, Okb k.bs
section
variable {s : St}
theorem OkT.files (h : OkT s) : OkL s.files := h.kept.run _ h.pend
theorem OkT.rd (h : OkT s) (n : Key) : Okb (rdS s n) := by
  unfold rdS
  split
  · exact Okb.nil
  · exact h.files.fb n
theorem OkT.new (r : Int) : OkT (St.new r) := ⟨OkL.nil, fun k hk => by cases hk⟩
theorem OkT.work (h : OkT s) {k : Wk} (hk : Okb k.bs) : OkT (s.work k).2 := by
  unfold St.work
  split
  · exact ⟨h.kept, h.pend⟩
  · refine ⟨h.kept, fun j hj => ?_⟩
    rcases List.mem_append.1 hj with e | e
    · exact h.pend j e
    · rw [List.mem_singleton.1 e]; exact hk
theorem OkT.append (h : OkT s) (n : Key) {l : List Int} (hl : Okb l) : OkT (s.append n l).2 := by
  unfold St.append
  repeat' split
  all_goals first | exact h | exact h.work hl
theorem OkT.remove (h : OkT s) (n : Key) : OkT (s.remove n).2 := by
  unfold St.remove
  repeat' split
  all_goals first | exact h | exact h.work Okb.nil
theorem OkT.rename (h : OkT s) (n m : Key) : OkT (s.rename n m).2 := by
  unfold St.rename
  repeat' split
  all_goals first | exact h | exact h.work Okb.nil
theorem OkT.sync (h : OkT s) : OkT s.sync.2 := by
  unfold St.sync
  split
  · exact h
  · split
    · exact ⟨h.kept, h.pend⟩
    · exact ⟨h.files, fun k hk => by cases hk⟩
theorem OkT.crash (h : OkT s) (a b : Int) : OkT (s.crash a b) := by
  refine ⟨?_, fun k hk => by cases hk⟩
  show OkL (crashF s.kept s.pend _ b)
  unfold crashF
  split
  · rename_i k hk
    exact (h.kept.run _ (fun j hj => h.pend j (List.mem_of_mem_take hj))).part (h.pend k (List.mem_of_getElem? hk)) b
  · exact h.kept.run _ (fun j hj => h.pend j (List.mem_of_mem_take hj))
theorem OkT.setFuse (h : OkT s) (n : Int) : OkT { s with fuse := n } := ⟨h.kept, h.pend⟩
theorem OkT.seq {q : Int × St} {f : St → Int × St} (h : OkT q.2) (hf : ∀ s : St, OkT s → OkT (f s).2) : OkT (seqS q f).2 := by
  unfold seqS
  split
  · exact hf _ h
  · exact h
theorem OkT.save (h : OkT s) {b : List Int} (hb : Okb b) : OkT (saveS s b).2 := by
  have h0 : OkT (if ex s nwN = true then s.remove nwN else (0, s)).2 := by
    split
    · exact h.remove _
    · exact h
  exact (((h0.seq fun s a => a.append _ hb).seq fun s a => a.sync).seq fun s a => a.rename _ _).seq fun s a => a.sync
/-- At most m works more; the fuse does not grow. -/
structure Wb (m : Nat) (s t : St) : Prop where
  works : t.works ≤ s.works + m
  fuse : t.fuse ≤ s.fuse ∨ t.fuse < 100
theorem wb_same (m : Nat) (s : St) : Wb m s s := ⟨Nat.le_add_right _ _, .inl (Int.le_refl _)⟩
theorem wb_work (s : St) (k : Wk) : Wb 1 s (s.work k).2 := by
  unfold St.work
  split
  · exact ⟨Nat.le_succ _, .inl (Int.le_refl _)⟩
  · refine ⟨Nat.le_refl _, .inl ?_⟩
    show (if 0 < s.fuse then s.fuse - 1 else s.fuse) ≤ s.fuse
    split <;> omega
theorem wb_append (s : St) (n : Key) (l : List Int) : Wb 1 s (s.append n l).2 := by
  unfold St.append
  repeat' split
  all_goals first | exact wb_same _ s | exact wb_work s _
theorem wb_remove (s : St) (n : Key) : Wb 1 s (s.remove n).2 := by
  unfold St.remove
  repeat' split
  all_goals first | exact wb_same _ s | exact wb_work s _
theorem wb_rename (s : St) (n m : Key) : Wb 1 s (s.rename n m).2 := by
  unfold St.rename
  repeat' split
  all_goals first | exact wb_same _ s | exact wb_work s _
theorem wb_sync (s : St) : Wb 1 s s.sync.2 := by
  unfold St.sync
  split
  · exact wb_same _ s
  · split
    · exact ⟨Nat.le_succ _, .inl (Int.le_refl _)⟩
    · refine ⟨Nat.le_refl _, .inl ?_⟩
      show (if 0 < s.fuse then s.fuse - 1 else s.fuse) ≤ s.fuse
      split <;> omega
theorem Wb.trans {m n : Nat} {a b c : St} (h : Wb m a b) (k : Wb n b c) : Wb (m + n) a c := ⟨by have := h.works; have := k.works; omega, by have := h.fuse; have := k.fuse; omega⟩
theorem Wb.more {m n : Nat} {a b : St} (h : Wb m a b) (k : m ≤ n) : Wb n a b := ⟨by have := h.works; omega, h.fuse⟩
theorem Wb.seq {m n : Nat} {q : Int × St} {f : St → Int × St} (h : Wb m s q.2) (hf : ∀ t : St, Wb n t (f t).2) : Wb (m + n) s (seqS q f).2 := by
  unfold seqS
  split
  · exact h.trans (hf _)
  · exact h.more (Nat.le_add_right _ _)
theorem wb_save (s : St) (b : List Int) : Wb 5 s (saveS s b).2 := by
  have h0 : Wb 1 s (if ex s nwN = true then s.remove nwN else (0, s)).2 := by
    split
    · exact wb_remove _ _
    · exact wb_same _ _
  exact (((h0.seq fun t => wb_append t _ _).seq fun t => wb_sync t).seq fun t => wb_rename t _ _).seq fun t => wb_sync t
end
end Go.Proofs.YtfneadlknieppaaGreatDoor
namespace Go.Proofs.YtfneadlknieppaaGreatDoor
open Go.RowKit

structure Rt where
  gen : Int
  logs : List Int
  idx : Int
def Rt.zero : Rt := ⟨0, [], 0⟩
def fin (n : Int) : Bool := decide (0 ≤ n) && decide (n ≤ 1099511627776)
theorem fin_iff {n : Int} : fin n = true ↔ 0 ≤ n ∧ n ≤ 1099511627776 := by simp [fin]
/-- Which roots may be. -/
def okR (r : Rt) : Bool := fin r.gen && fin r.idx && decide (r.logs.length ≤ 8) && r.logs.all fin
theorem okR_iff {r : Rt} : okR r = true ↔ fin r.gen = true ∧ fin r.idx = true ∧ r.logs.length ≤ 8 ∧ ∀ x ∈ r.logs, fin x = true := by
  simp [okR, and_assoc]
/-- A number as Var writes it. -/
def vr (n : Int) : List Int := leb 9 (IntKind.u64.wrap n)
def vrs : List Int → List Int
  | [] => []
  | x :: l => vr x ++ vrs l
theorem vrs_app : ∀ a b : List Int, vrs (a ++ b) = vrs a ++ vrs b
  | [], _ => rfl
  | x :: a, b => by simp [vrs, vrs_app a b]
def bodyR (r : Rt) : List Int := vr r.gen ++ (vr r.idx ++ (vr r.logs.length ++ vrs r.logs))
def encR (r : Rt) : List Int := frm 1 (bodyR r)
/-- What Lay answers. -/
def layR (r : Rt) : Int × List Int := if okR r = true then (0, encR r) else (1, [])
theorem vr_len (n : Int) : (vr n).length ≤ 10 := leb_length 9 _
theorem vr_ok (n : Int) : Okb (vr n) := leb_ok 9 _ (u64_bd n).1 (u64_pow n)
theorem vrs_len : ∀ l : List Int, (vrs l).length ≤ 10 * l.length
  | [] => Nat.le_refl _
  | x :: l => by
    have h1 := vr_len x
    have h2 := vrs_len l
    rw [vrs, List.length_append, List.length_cons]
    omega
theorem vrs_ok : ∀ l : List Int, Okb (vrs l)
  | [] => Okb.nil
  | x :: l => (vr_ok x).app (vrs_ok l)
theorem bodyR_ok (r : Rt) : Okb (bodyR r) := (vr_ok _).app ((vr_ok _).app ((vr_ok _).app (vrs_ok _)))
theorem bodyR_len {r : Rt} (h : r.logs.length ≤ 8) : (bodyR r).length ≤ 110 := by
  have h1 := vr_len r.gen
  have h2 := vr_len r.idx
  have h3 := vr_len r.logs.length
  have h4 := vrs_len r.logs
  unfold bodyR
  simp only [List.length_append]
  omega
theorem encR_len {r : Rt} (h : okR r = true) : (encR r).length ≤ 200 := by
  have := bodyR_len (okR_iff.1 h).2.2.1
  unfold encR
  rw [frm_len]
  omega
theorem rok_body {r : Rt} (h : r.logs.length ≤ 8) : Rok ((1 : Int), bodyR r) := ⟨(by show (1 : Int) ≤ 1; decide), (by show (1 : Int) ≤ 255; decide), by show (bodyR r).length ≤ _; have := bodyR_len h; omega, bodyR_ok r⟩
theorem nxt_enc {r : Rt} (h : r.logs.length ≤ 8) : nxt (encR r) = (1, bodyR r, 9 + ((bodyR r).length : Int), 0) := by
  have := nxt_frm [] (rok_body h)
  rw [List.append_nil] at this
  exact this
/-- What Var reads. -/
def pV (l : List Int) : Option (Int × List Int) := (rv 10 0 0 l).map fun p => (wrap64 p.1, p.2)
theorem pV_vr {n : Int} (h : fin n = true) (l : List Int) : pV (vr n ++ l) = some (n, l) := by
  have h1 := fin_iff.1 h
  unfold pV vr
  rw [backVar, Option.map_some, wrap_back n (by omega)]
theorem fin_len {r : Rt} (h : r.logs.length ≤ 8) : fin (r.logs.length : Int) = true := fin_iff.2 (by omega)
theorem vrs_inj : ∀ {l l' : List Int}, l.length = l'.length → (∀ x ∈ l, fin x = true) → (∀ x ∈ l', fin x = true) → vrs l = vrs l' → l = l'
  | [], [], _, _, _, _ => rfl
  | [], _ :: _, h, _, _, _ => by simp at h
  | _ :: _, [], h, _, _, _ => by simp at h
  | x :: l, y :: l', h, h1, h2, e => by
    rw [vrs, vrs] at e
    have e1 := congrArg pV e
    rw [pV_vr (h1 x List.mem_cons_self), pV_vr (h2 y List.mem_cons_self)] at e1
    simp only [Option.some.injEq, Prod.mk.injEq] at e1
    obtain ⟨rfl, e2⟩ := e1
    rw [vrs_inj (by simpa using h) (fun z hz => h1 z (List.mem_cons_of_mem _ hz)) (fun z hz => h2 z (List.mem_cons_of_mem _ hz)) e2]
theorem bodyR_inj {r r' : Rt} (h : okR r = true) (h' : okR r' = true) (e : bodyR r = bodyR r') : r = r' := by
  obtain ⟨a1, a2, a3, a4⟩ := okR_iff.1 h
  obtain ⟨b1, b2, b3, b4⟩ := okR_iff.1 h'
  unfold bodyR at e
  have e1 := congrArg pV e
  rw [pV_vr a1, pV_vr b1] at e1
  simp only [Option.some.injEq, Prod.mk.injEq] at e1
  have e2 := congrArg pV e1.2
  rw [pV_vr a2, pV_vr b2] at e2
  simp only [Option.some.injEq, Prod.mk.injEq] at e2
  have e3 := congrArg pV e2.2
  rw [pV_vr (fin_len a3), pV_vr (fin_len b3)] at e3
  simp only [Option.some.injEq, Prod.mk.injEq] at e3
  have e4 := vrs_inj (by have := e3.1; omega) a4 b4 e3.2
  cases r
  cases r'
  simp only [Rt.mk.injEq]
  exact ⟨e1.1, e4, e2.1⟩
theorem encR_inj {r r' : Rt} (h : okR r = true) (h' : okR r' = true) (e : encR r = encR r') : r = r' := by
  have h1 := nxt_enc (okR_iff.1 h).2.2.1
  rw [e, nxt_enc (okR_iff.1 h').2.2.1] at h1
  simp only [Prod.mk.injEq] at h1
  exact bodyR_inj h h' h1.2.1.symm
/-- What Read answers: c, and the root. -/
def RdIs (b : List Int) (c : Int) (r : Rt) : Prop :=
  if (nxt b).2.2.2 ≠ 0 then c = (nxt b).2.2.2 ∧ r = Rt.zero else (c = 0 ∧ okR r = true ∧ b = encR r) ∨ (c = 2 ∧ r = Rt.zero ∧ ∀ r0, okR r0 = true → b ≠ encR r0)
theorem RdIs.unique {b : List Int} {c c' : Int} {r r' : Rt} (h : RdIs b c r) (h' : RdIs b c' r') : c = c' ∧ r = r' := by
  unfold RdIs at h h'
  split at h
  · rename_i hn
    rw [if_pos hn] at h'
    exact ⟨h.1.trans h'.1.symm, h.2.trans h'.2.symm⟩
  · rename_i hn
    rw [if_neg hn] at h'
    rcases h with ⟨rfl, h2, h3⟩ | ⟨rfl, rfl, h3⟩
    · rcases h' with ⟨rfl, k2, k3⟩ | ⟨_, _, k3⟩
      · exact ⟨rfl, encR_inj h2 k2 (h3.symm.trans k3)⟩
      · exact absurd h3 (k3 _ h2)
    · rcases h' with ⟨_, k2, k3⟩ | ⟨rfl, rfl, _⟩
      · exact absurd k3 (h3 _ k2)
      · exact ⟨rfl, rfl⟩
theorem rdis_enc {r : Rt} (h : okR r = true) : RdIs (encR r) 0 r := by
  unfold RdIs
  rw [nxt_enc (okR_iff.1 h).2.2.1, if_neg (by simp)]
  exact .inl ⟨rfl, h, rfl⟩
/-- How a decoder that read g, i, n and then numbers stands to the bytes of a root: j numbers are read. -/
structure RdAt (body : List Int) (g i n : Int) (ls l : List Int) (lk : Bool) : Prop where
  at_ : ∀ r0, okR r0 = true → body = bodyR r0 → lk = false ∧ g = r0.gen ∧ i = r0.idx ∧ ls = r0.logs.take ls.length ∧ n = (r0.logs.length : Int) - ls.length ∧ l = vrs (r0.logs.drop ls.length)
theorem RdAt.start {body : List Int} {g i n : Int} {l1 l2 l3 : List Int} (h1 : pV body = some (g, l1)) (h2 : pV l1 = some (i, l2)) (h3 : pV l2 = some (n, l3)) : RdAt body g i n [] l3 false := ⟨fun r0 h e => by
  obtain ⟨a1, a2, a3, a4⟩ := okR_iff.1 h
  rw [e, bodyR, pV_vr a1] at h1
  simp only [Option.some.injEq, Prod.mk.injEq] at h1
  rw [← h1.2, pV_vr a2] at h2
  simp only [Option.some.injEq, Prod.mk.injEq] at h2
  rw [← h2.2, pV_vr (fin_len a3)] at h3
  simp only [Option.some.injEq, Prod.mk.injEq] at h3
  exact ⟨rfl, h1.1.symm, h2.1.symm, rfl, by have := h3.1; simp; omega, by rw [← h3.2]; rfl⟩⟩
theorem RdAt.step {body : List Int} {g i n x : Int} {ls l l' : List Int} (h : RdAt body g i n ls l false) (hn : 0 < n) (hx : pV l = some (x, l')) : RdAt body g i (n - 1) (ls ++ [x]) l' false := ⟨fun r0 h0 e => by
  obtain ⟨_, b2, b3, b4, b5, b6⟩ := h.at_ r0 h0 e
  obtain ⟨a1, a2, a3, a4⟩ := okR_iff.1 h0
  have hlt : ls.length < r0.logs.length := by omega
  rw [b6, List.drop_eq_getElem_cons hlt, vrs, pV_vr (a4 _ (List.getElem_mem hlt))] at hx
  simp only [Option.some.injEq, Prod.mk.injEq] at hx
  refine ⟨rfl, b2, b3, ?_, by simp; omega, by simp only [List.length_append, List.length_cons, List.length_nil, Nat.zero_add]; exact hx.2.symm⟩
  simp only [List.length_append, List.length_cons, List.length_nil, Nat.zero_add]
  rw [List.take_succ_eq_append_getElem hlt, ← b4, hx.1]⟩
theorem RdAt.lack {body : List Int} {g i n : Int} {ls l : List Int} (h : RdAt body g i n ls l false) (hn : 0 < n) (hx : pV l = none) (g' i' n' : Int) (ls' l' : List Int) (lk : Bool) : RdAt body g' i' n' ls' l' lk := ⟨fun r0 h0 e => by
  obtain ⟨_, b2, b3, b4, b5, b6⟩ := h.at_ r0 h0 e
  obtain ⟨a1, a2, a3, a4⟩ := okR_iff.1 h0
  have hlt : ls.length < r0.logs.length := by omega
  rw [b6, List.drop_eq_getElem_cons hlt, vrs, pV_vr (a4 _ (List.getElem_mem hlt))] at hx
  cases hx⟩
theorem RdAt.none {body : List Int} (h : ∀ r0, okR r0 = true → body ≠ bodyR r0) (g i n : Int) (ls l : List Int) (lk : Bool) : RdAt body g i n ls l lk := ⟨fun r0 h0 e => absurd e (h r0 h0)⟩
/-- At the end: what was read is the root, if the bytes are one. -/
theorem RdAt.done {body : List Int} {g i n : Int} {ls l : List Int} {lk : Bool} (h : RdAt body g i n ls l lk) (hend : lk = true ∨ n ≤ 0 ∨ 8 < ls.length) {r0 : Rt} (h0 : okR r0 = true) (e : body = bodyR r0) : lk = false ∧ (⟨g, ls, i⟩ : Rt) = r0 := by
  obtain ⟨b1, b2, b3, b4, b5, b6⟩ := h.at_ r0 h0 e
  obtain ⟨a1, a2, a3, a4⟩ := okR_iff.1 h0
  have hl : ls.length ≤ r0.logs.length := by
    have := congrArg List.length b4
    rw [List.length_take] at this
    omega
  have hle : ls.length = r0.logs.length := by
    rcases hend with h | h | h
    · rw [b1] at h; cases h
    · omega
    · omega
  refine ⟨b1, ?_⟩
  rw [hle, List.take_length] at b4
  cases r0
  simp only [Rt.mk.injEq]
  exact ⟨b2, b4, b3⟩
end Go.Proofs.YtfneadlknieppaaGreatDoor
namespace Go.Proofs.YtfneadlknieppaaGreatDoor
open Go.RowKit
open Go.Maps

/-- What a decoder hands back, whatever it read. -/
def DecIs (body : List Int) (r : Rt) : Prop := ∀ r0, okR r0 = true → body = bodyR r0 → r = r0
/-- What a reader reads next: the number, what is left, whether it lacks. -/
def nxV (l : List Int) (lk : Bool) : Int × List Int × Bool := match pV l with | some (x, l') => (x, l', lk) | none => (0, [], true)
theorem RdAt.next {body : List Int} {g i n : Int} {ls l : List Int} {lk : Bool} (h : RdAt body g i n ls l lk) (hn : 0 < n) : RdAt body g i (n - 1) (ls ++ [(nxV l lk).1]) (nxV l lk).2.1 (nxV l lk).2.2 := by
  cases lk with
  | true => exact RdAt.none (fun r0 h0 e => by have := (h.at_ r0 h0 e).1; cases this) _ _ _ _ _ _
  | false =>
    unfold nxV
    cases hx : pV l with
    | none => exact h.lack hn hx _ _ _ _ _ _
    | some p => obtain ⟨x, l'⟩ := p; exact h.step hn hx
/-- The three numbers ahead of the lengths. -/
theorem RdAt.first (body : List Int) : RdAt body (nxV body false).1 (nxV (nxV body false).2.1 (nxV body false).2.2).1 (nxV (nxV (nxV body false).2.1 (nxV body false).2.2).2.1 (nxV (nxV body false).2.1 (nxV body false).2.2).2.2).1 []
    (nxV (nxV (nxV body false).2.1 (nxV body false).2.2).2.1 (nxV (nxV body false).2.1 (nxV body false).2.2).2.2).2.1 (nxV (nxV (nxV body false).2.1 (nxV body false).2.2).2.1 (nxV (nxV body false).2.1 (nxV body false).2.2).2.2).2.2 := by
  refine ⟨fun r0 h e => ?_⟩
  obtain ⟨a1, a2, a3, a4⟩ := okR_iff.1 h
  have e1 : nxV body false = (r0.gen, vr r0.idx ++ (vr r0.logs.length ++ vrs r0.logs), false) := by
    unfold nxV; rw [e, bodyR, pV_vr a1]
  rw [e1]
  have e2 : nxV (vr r0.idx ++ (vr r0.logs.length ++ vrs r0.logs)) false = (r0.idx, vr r0.logs.length ++ vrs r0.logs, false) := by
    unfold nxV; rw [pV_vr a2]
  simp only [e2]
  have e3 : nxV (vr r0.logs.length ++ vrs r0.logs) false = ((r0.logs.length : Int), vrs r0.logs, false) := by
    unfold nxV; rw [pV_vr (fin_len a3)]
  simp only [e3]
  simp
theorem RdAt.fin8 {body : List Int} {g i n : Int} {ls l : List Int} {lk : Bool} (h : RdAt body g i n ls l lk) (hend : n ≤ 0 ∨ 8 ≤ ls.length) : DecIs body ⟨g, ls, i⟩ := fun r0 h0 e => by
  obtain ⟨b1, b2, b3, b4, b5, b6⟩ := h.at_ r0 h0 e
  obtain ⟨a1, a2, a3, a4⟩ := okR_iff.1 h0
  have hl : ls.length ≤ r0.logs.length := by
    have := congrArg List.length b4
    rw [List.length_take] at this
    omega
  have hle : ls.length = r0.logs.length := by omega
  rw [hle, List.take_length] at b4
  cases r0
  simp only [Rt.mk.injEq]
  exact ⟨b2, b4, b3⟩
/-- What Read answers, once the body is decoded. -/
theorem rdis_bad {b : List Int} (h : (nxt b).2.2.2 ≠ 0) : RdIs b (nxt b).2.2.2 Rt.zero := by
  unfold RdIs; rw [if_pos h]; exact ⟨rfl, rfl⟩
theorem rdis_good {b : List Int} {r : Rt} (h : (nxt b).2.2.2 = 0) (ho : okR r = true) (e : encR r = b) : RdIs b 0 r := by
  unfold RdIs; rw [if_neg (by simp [h])]; exact .inl ⟨rfl, ho, e.symm⟩
theorem rdis_form {b : List Int} {r : Rt} (h : (nxt b).2.2.2 = 0) (hd : DecIs (nxt b).2.1 r) (hn : ¬ (okR r = true ∧ encR r = b)) : RdIs b 2 Rt.zero := by
  unfold RdIs
  rw [if_neg (by simp [h])]
  refine .inr ⟨rfl, rfl, fun r0 h0 e => hn ?_⟩
  have := hd r0 h0 (by rw [e, nxt_enc (okR_iff.1 h0).2.2.1])
  subst this
  exact ⟨h0, e.symm⟩
/-- For a decoder that says whether it lacked. -/
theorem rdis_lack {b : List Int} {r : Rt} {lk : Bool} (h : (nxt b).2.2.2 = 0) (hd : ∀ r0, okR r0 = true → (nxt b).2.1 = bodyR r0 → lk = false ∧ r = r0) (hn : ¬ (okR r = true ∧ lk = false ∧ encR r = b)) : RdIs b 2 Rt.zero := by
  unfold RdIs
  rw [if_neg (by simp [h])]
  refine .inr ⟨rfl, rfl, fun r0 h0 e => hn ?_⟩
  obtain ⟨h1, h2⟩ := hd r0 h0 (by rw [e, nxt_enc (okR_iff.1 h0).2.2.1])
  subst h2
  exact ⟨h0, h1, e.symm⟩
/-- What Load answers. -/
def LdIs (s : St) (c : Int) (r : Rt) : Prop := if ex s rtN = true then RdIs (rdS s rtN) c r else c = 11 ∧ r = Rt.zero
theorem LdIs.unique {s : St} {c c' : Int} {r r' : Rt} (h : LdIs s c r) (h' : LdIs s c' r') : c = c' ∧ r = r' := by
  unfold LdIs at h h'
  split at h
  · rename_i hx
    rw [if_pos hx] at h'
    exact h.unique h'
  · rename_i hx
    rw [if_neg hx] at h'
    exact ⟨h.1.trans h'.1.symm, h.2.trans h'.2.symm⟩
theorem Hd.ldnone {s : St} (h : Hd s none) {c : Int} {r : Rt} (hl : LdIs s c r) : c = 11 ∧ r = Rt.zero := by
  unfold LdIs at hl
  rwa [if_neg (by rw [h.load.1]; decide)] at hl
theorem Hd.ldsome {s : St} {r0 : Rt} (h0 : okR r0 = true) (h : Hd s (some (encR r0))) {c : Int} {r : Rt} (hl : LdIs s c r) : c = 0 ∧ r = r0 := by
  unfold LdIs at hl
  rw [if_pos (by rw [h.load.1]; rfl), h.load.2] at hl
  exact hl.unique (rdis_enc h0)
/-- A raw root. -/
structure Rw where
  gen : Int
  idx : Int
  how : Int
  logs : List Int
def oneB (x : Rw) : Rt := ⟨x.gen % 100000, (x.logs.take 9).map (· % 1073741824), x.idx % 1000⟩
def oneR (x : Rw) : Rt := if x.how % 12 = 0 then { oneB x with gen := x.gen } else if x.how % 12 = 1 then { oneB x with idx := x.idx } else if x.how % 12 = 2 then { oneB x with logs := (oneB x).logs ++ [x.how] } else oneB x
theorem oneR_len (x : Rw) : (oneR x).logs.length ≤ 10 := by
  have h : (oneB x).logs.length ≤ 9 := by show (((x.logs.take 9).map _).length ≤ 9); rw [List.length_map, List.length_take]; omega
  unfold oneR
  repeat' split
  · exact Nat.le_succ_of_le h
  · exact Nat.le_succ_of_le h
  · show ((oneB x).logs ++ [x.how]).length ≤ 10; rw [List.length_append, List.length_singleton]; omega
  · exact Nat.le_succ_of_le h
/-- What the statement holds to be the root that is there. -/
def NowIs (o : Option (List Int)) (r : Rt) : Prop := (o = none ∧ r.gen = -1) ∨ (okR r = true ∧ o = some (encR r))
theorem layR_yes {r : Rt} (h : okR r = true) : layR r = (0, encR r) := if_pos h
theorem layR_no {r : Rt} (h : ¬ okR r = true) : layR r = (1, []) := if_neg h
theorem encR_ok (r : Rt) : Okb (encR r) := frm_ok 1 (bodyR_ok r)
end Go.Proofs.YtfneadlknieppaaGreatDoor
