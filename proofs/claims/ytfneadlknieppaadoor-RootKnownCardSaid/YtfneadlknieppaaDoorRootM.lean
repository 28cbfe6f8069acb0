/- Saving a root and falling, as plain mathematics: what the files hold wherever a crash occurs. No condition. -/
import Derived.Test.YtfneadlknieppaaDoorDskE
namespace Go.Proofs.YtfneadlknieppaaDoor
open Go.RowKit
open Go.Maps

def rtN : Key := [114, 111, 111, 116]
def nwN : Key := [114, 111, 111, 116, 46, 110, 101, 119]
/-- Is there such a file, as Read tells. -/
def ex (s : St) (n : Key) : Bool := if s.dead = true then false else (aget n s.files).isSome
def rdS (s : St) (n : Key) : List Int := if s.dead = true then [] else fbytes n s.files
/-- One call behind another, where the first went well. -/
def seqS (q : Int × St) (f : St → Int × St) : Int × St := if q.1 = 0 then f q.2 else q
/-- The calls on the disk of one saving. -/
def saveS (s : St) (b : List Int) : Int × St :=
  seqS (seqS (seqS (seqS (if ex s nwN = true then s.remove nwN else (0, s)) fun s => s.append nwN b) St.sync) fun s => s.rename nwN rtN) St.sync
theorem rt_ne : rtN ≠ nwN := by decide
theorem olen_fb (n : Key) (F : Fil) : olen List.length (aget n F) = (fbytes n F).length := by
  unfold fbytes
  cases aget n F <;> rfl
/-- The files between savings: root's bytes are o; root.new may hold what a saving left. -/
structure Gf (F : Fil) (o : Option (List Int)) : Prop where
  asc : AAsc F
  rt : aget rtN F = o
  only : ∀ n, (aget n F).isSome = true → n = rtN ∨ n = nwN
  s1 : (fbytes rtN F).length ≤ 200
  s2 : (fbytes nwN F).length ≤ 200
section
variable {F : Fil} {o : Option (List Int)} {b : List Int}
theorem Gf.nil : Gf [] none := ⟨AAsc.nil, rfl, fun n h => by simp [aget] at h, by simp [fbytes, aget], by simp [fbytes, aget]⟩
theorem Gf.tot (h : Gf F o) : totF F = (fbytes rtN F).length + (fbytes nwN F).length := by
  have h1 := asum_del List.length nwN h.asc
  have h2 := asum_del List.length rtN (h.asc.del nwN)
  have h3 : adel rtN (adel nwN F) = [] := by
    rw [List.eq_nil_iff_forall_not_mem]
    rintro ⟨n, a⟩ hm
    obtain ⟨hm1, hn1⟩ := (adel_mem rtN _ _).1 hm
    obtain ⟨hm2, hn2⟩ := (adel_mem nwN _ _).1 hm1
    have := aget_of_mem h.asc hm2
    rcases h.only n (by rw [this]; rfl) with e | e
    · exact hn1 e
    · exact hn2 e
  rw [h3, aget_del_other nwN rtN rt_ne] at h2
  rw [olen_fb] at h1 h2
  have h4 : asum List.length ([] : Fil) = 0 := rfl
  unfold totF
  omega
theorem Gf.rm (h : Gf F o) : Gf (adel nwN F) o where
  asc := h.asc.del _
  rt := by rw [aget_del_other nwN rtN rt_ne]; exact h.rt
  only := fun n hn => by
    by_cases e : n = nwN
    · exact .inr e
    · rw [aget_del_other nwN n e] at hn; exact h.only n hn
  s1 := by rw [fbytes_del_other nwN rtN rt_ne]; exact h.s1
  s2 := by unfold fbytes; rw [aget_del_same]; simp
theorem Gf.app (h : Gf F o) (hn : aget nwN F = none) {x : List Int} (hx : x.length ≤ 200) : Gf (aput nwN (fbytes nwN F ++ x) F) o where
  asc := h.asc.put _ _
  rt := by rw [aget_put_other nwN rtN _ rt_ne]; exact h.rt
  only := fun n hn => by
    by_cases e : n = nwN
    · exact .inr e
    · rw [aget_put_other nwN n _ e] at hn; exact h.only n hn
  s1 := by rw [fbytes_put_other nwN rtN _ rt_ne]; exact h.s1
  s2 := by
    have : fbytes nwN F = [] := by unfold fbytes; rw [hn]; rfl
    rw [fbytes_put_same, this]; exact hx
theorem Gf.ren (h : Gf F o) (hn : aget nwN F = some b) : Gf (aput rtN (fbytes nwN F) (adel nwN F)) (some b) ∧ aget nwN (aput rtN (fbytes nwN F) (adel nwN F)) = none := by
  have hb : fbytes nwN F = b := by unfold fbytes; rw [hn]; rfl
  have h9 : aget nwN (aput rtN (fbytes nwN F) (adel nwN F)) = none := by rw [aget_put_other rtN nwN _ rt_ne.symm, aget_del_same]
  refine ⟨⟨(h.asc.del _).put _ _, by rw [aget_put_same, hb], fun n hn => ?_, by rw [fbytes_put_same]; exact h.s2, by unfold fbytes at h9 ⊢; rw [h9]; simp⟩, h9⟩
  by_cases e : n = rtN
  · exact .inl e
  · rw [aget_put_other rtN n _ e] at hn
    by_cases e2 : n = nwN
    · exact .inr e2
    · rw [aget_del_other nwN n e2] at hn; exact h.only n hn
end
abbrev kRm : Wk := ⟨3, nwN, [], [], 0⟩
abbrev kAp (b : List Int) : Wk := ⟨0, nwN, [], b, 0⟩
abbrev kRn : Wk := ⟨2, nwN, rtN, [], 0⟩
/-- Wherever it falls, root's bytes are o's or b's. -/
def Cr (K : Fil) (P : List Wk) (o : Option (List Int)) (b : List Int) : Prop := ∀ d cut, Gf (crashF K P d cut) o ∨ Gf (crashF K P d cut) (some b)
section
variable {K : Fil} {o : Option (List Int)} {b : List Int}
theorem cr_nil (h : Gf K o) : Cr K [] o b := fun d cut => .inl (by
  have : crashF K [] d cut = K := by unfold crashF; simp [run]
  rw [this]; exact h)
theorem part_ap (h : Gf K o) (hn : aget nwN K = none) (hb : b.length ≤ 200) (cut : Int) : Gf (part K (kAp b) cut) o := by
  unfold part
  rw [if_pos rfl]
  split
  · exact h
  · exact h.app hn (by rw [List.length_take]; exact Nat.le_trans (Nat.min_le_right _ _) hb)
theorem run_ap (h : Gf K o) (hn : aget nwN K = none) (hb : b.length ≤ 200) : Gf (turn K (kAp b)) o ∧ aget nwN (turn K (kAp b)) = some b := by
  have e : turn K (kAp b) = aput nwN (fbytes nwN K ++ b) K := rfl
  have h0 : fbytes nwN K = [] := by unfold fbytes; rw [hn]; rfl
  rw [e]
  exact ⟨h.app hn hb, by rw [aget_put_same, h0, List.nil_append]⟩
theorem run_rm (h : Gf K o) : Gf (turn K kRm) o ∧ aget nwN (turn K kRm) = none := by
  have e : turn K kRm = adel nwN K := rfl
  rw [e]
  exact ⟨h.rm, aget_del_same _ _⟩
theorem cr_ap (h : Gf K o) (hn : aget nwN K = none) (hb : b.length ≤ 200) : Cr K [kAp b] o b := fun d cut => .inl (by
  match d with
  | 0 => exact part_ap h hn hb cut
  | d + 1 =>
    have : crashF K [kAp b] (d + 1) cut = turn K (kAp b) := by unfold crashF; simp [run]
    rw [this]; exact (run_ap h hn hb).1)
theorem cr_rm (h : Gf K o) : Cr K [kRm] o b := fun d cut => .inl (by
  match d with
  | 0 =>
    have : crashF K [kRm] 0 cut = K := by unfold crashF part; simp [run]
    rw [this]; exact h
  | d + 1 =>
    have : crashF K [kRm] (d + 1) cut = turn K kRm := by unfold crashF; simp [run]
    rw [this]; exact (run_rm h).1)
theorem cr_rm_ap (h : Gf K o) (hb : b.length ≤ 200) : Cr K [kRm, kAp b] o b := fun d cut => .inl (by
  match d with
  | 0 =>
    have : crashF K [kRm, kAp b] 0 cut = K := by unfold crashF part; simp [run]
    rw [this]; exact h
  | 1 =>
    have : crashF K [kRm, kAp b] 1 cut = part (turn K kRm) (kAp b) cut := by unfold crashF; simp [run]
    rw [this]; exact part_ap (run_rm h).1 (run_rm h).2 hb cut
  | d + 2 =>
    have : crashF K [kRm, kAp b] (d + 2) cut = turn (turn K kRm) (kAp b) := by unfold crashF; simp [run]
    rw [this]; exact (run_ap (run_rm h).1 (run_rm h).2 hb).1)
theorem cr_rn (h : Gf K o) (hn : aget nwN K = some b) : Cr K [kRn] o b := fun d cut => by
  match d with
  | 0 =>
    have : crashF K [kRn] 0 cut = K := by unfold crashF part; simp [run]
    rw [this]; exact .inl h
  | d + 1 =>
    have : crashF K [kRn] (d + 1) cut = aput rtN (fbytes nwN K) (adel nwN K) := by unfold crashF; simp [run, turn]
    rw [this]; exact .inr (h.ren hn).1
end
/-- A disk that lives: what is kept, what pends. -/
structure Md (s : St) (K : Fil) (P : List Wk) : Prop where
  alive : s.dead = false
  kept : s.kept = K
  pend : s.pend = P
  room : s.room = 100000
/-- Behind a call at which it fell. -/
structure Fl (q : Int × St) (K : Fil) (P : List Wk) : Prop where
  err : q.1 = 7
  dead : q.2.dead = true
  kept : q.2.kept = K
  pend : q.2.pend = P
  room : q.2.room = 100000
section
variable {s : St} {K : Fil} {P : List Wk} {q : Int × St} {f : St → Int × St}
theorem Fl.seq (h : Fl q K P) : Fl (seqS q f) K P := by
  unfold seqS
  rw [if_neg (by rw [h.err]; decide)]
  exact h
theorem seq_ok (h : q.1 = 0) : seqS q f = f q.2 := if_pos h
theorem Md.files (h : Md s K P) : s.files = run K P := by unfold St.files; rw [h.kept, h.pend]
theorem Md.work (h : Md s K P) (k : Wk) : Fl (s.work k) K P ∨ ((s.work k).1 = 0 ∧ Md (s.work k).2 K (P ++ [k])) := by
  unfold St.work
  split
  · exact .inl ⟨rfl, rfl, h.kept, h.pend, h.room⟩
  · exact .inr ⟨rfl, h.alive, h.kept, by show s.pend ++ [k] = _; rw [h.pend], h.room⟩
theorem Md.sync (h : Md s K P) : Fl s.sync K P ∨ (s.sync.1 = 0 ∧ Md s.sync.2 (run K P) []) := by
  unfold St.sync
  rw [if_neg (by rw [h.alive]; decide)]
  split
  · exact .inl ⟨rfl, rfl, h.kept, h.pend, h.room⟩
  · exact .inr ⟨rfl, h.alive, h.files, rfl, h.room⟩
end
/-- The disk between savings. -/
def Hd (s : St) (o : Option (List Int)) : Prop := ∃ K, Md s K [] ∧ Gf K o
theorem Hd.new : Hd (St.new 100000) none := ⟨[], ⟨rfl, rfl, rfl, by decide⟩, Gf.nil⟩
theorem Hd.setFuse {s : St} {o : Option (List Int)} (h : Hd s o) (n : Int) : Hd { s with fuse := n } o := by
  obtain ⟨K, h1, h2⟩ := h
  exact ⟨K, ⟨h1.alive, h1.kept, h1.pend, h1.room⟩, h2⟩
theorem crash_md (s : St) (a cut : Int) (hr : s.room = 100000) : Md (s.crash a cut) (crashF s.kept s.pend (a % ((s.pend.length : Int) + 1)).toNat cut) [] := ⟨rfl, rfl, rfl, hr⟩
theorem Hd.crash {s : St} {o : Option (List Int)} (h : Hd s o) (a cut : Int) : Hd (s.crash a cut) o := by
  obtain ⟨K, h1, h2⟩ := h
  refine ⟨_, crash_md s a cut h1.room, ?_⟩
  rw [h1.kept, h1.pend]
  have : ∀ d, crashF K [] d cut = K := fun d => by unfold crashF; simp [run]
  rw [this]
  exact h2
/-- What Load finds. -/
theorem Hd.load {s : St} {o : Option (List Int)} (h : Hd s o) : ex s rtN = o.isSome ∧ rdS s rtN = o.getD [] := by
  obtain ⟨K, h1, h2⟩ := h
  unfold ex rdS fbytes
  have hf : s.files = K := by rw [h1.files]; rfl
  rw [if_neg (by rw [h1.alive]; decide), if_neg (by rw [h1.alive]; decide), hf, h2.rt]
  exact ⟨rfl, rfl⟩
/-- A saving that fell leaves the old root or the new one, wherever the crash occurs; one that did not is saved: whatever pends. -/
theorem save_gen {s : St} {K : Fil} {P0 : List Wk} {o : Option (List Int)} {b : List Int} (hm : Md s K P0) (hg : Gf (run K P0) o) (hb : b.length ≤ 200) (hc0 : Cr K P0 o b)
    (hy : (aget nwN (run K P0)).isSome = true → Cr K (P0 ++ [kRm]) o b ∧ Cr K (P0 ++ [kRm] ++ [kAp b]) o b) (hno : aget nwN (run K P0) = none → Cr K (P0 ++ [kAp b]) o b) :
    (∃ K P, Fl (saveS s b) K P ∧ Cr K P o b) ∨ ((saveS s b).1 = 0 ∧ Hd (saveS s b).2 (some b) ∧ aget nwN (saveS s b).2.kept = none) := by
  have hf : s.files = run K P0 := hm.files
  have h1 : (∃ P, Fl (if ex s nwN = true then s.remove nwN else (0, s)) K P ∧ Cr K P o b) ∨
      ∃ P, (if ex s nwN = true then s.remove nwN else (0, s)).1 = 0 ∧ Md (if ex s nwN = true then s.remove nwN else (0, s)).2 K P ∧ Cr K P o b ∧ Cr K (P ++ [kAp b]) o b ∧ Gf (run K P) o ∧ aget nwN (run K P) = none := by
    have hex : ex s nwN = (aget nwN (run K P0)).isSome := by unfold ex; rw [if_neg (by rw [hm.alive]; decide), hf]
    rw [hex]
    by_cases hn : (aget nwN (run K P0)).isSome = true
    · rw [if_pos hn]
      have hr : s.remove nwN = s.work kRm := by
        unfold St.remove
        rw [if_neg (by decide), if_neg (by rw [hm.alive]; decide), if_neg (by rw [hf, hn]; decide)]
      rw [hr]
      rcases hm.work kRm with hh | ⟨h0, hh⟩
      · exact .inl ⟨P0, hh, hc0⟩
      · refine .inr ⟨P0 ++ [kRm], h0, hh, (hy hn).1, (hy hn).2, ?_, ?_⟩
        · rw [run_snoc]; exact (run_rm hg).1
        · rw [run_snoc]; exact (run_rm hg).2
    · have hn0 : aget nwN (run K P0) = none := by cases hx : aget nwN (run K P0) <;> simp_all
      rw [if_neg hn]
      exact .inr ⟨P0, rfl, hm, hc0, hno hn0, hg, hn0⟩
  unfold saveS
  generalize (if ex s nwN = true then s.remove nwN else (0, s)) = q1 at h1 ⊢
  rcases h1 with ⟨P, h1, hc⟩ | ⟨P, h10, h1, hc1, hc2, hg1, hn1⟩
  · exact .inl ⟨K, P, h1.seq.seq.seq.seq, hc⟩
  rw [seq_ok (q := q1) h10]
  have h2 : q1.2.append nwN b = q1.2.work (kAp b) := by
    unfold St.append
    have hu : q1.2.used = (fbytes rtN (run K P)).length := by
      have h9 : fbytes nwN (run K P) = [] := by unfold fbytes; rw [hn1]; rfl
      show totF q1.2.files = _
      rw [h1.files, hg1.tot, h9]; simp
    have hs := hg1.s1
    rw [if_neg (by decide), if_neg (by rw [h1.alive]; decide), if_neg (by rw [h1.room, hu]; omega)]
  simp only [h2]
  rcases h1.work (kAp b) with hh | ⟨h20, hm2⟩
  · exact .inl ⟨K, P, hh.seq.seq.seq, hc1⟩
  rw [seq_ok (q := q1.2.work (kAp b)) h20]
  generalize (q1.2.work (kAp b)).2 = s2 at *
  have hr2 : run K (P ++ [kAp b]) = turn (run K P) (kAp b) := run_snoc _ _ _
  obtain ⟨hg2, hn2⟩ := run_ap hg1 hn1 hb
  rcases hm2.sync with hh | ⟨h30, hm3⟩
  · exact .inl ⟨K, P ++ [kAp b], hh.seq.seq, hc2⟩
  rw [seq_ok (q := s2.sync) h30]
  rw [hr2] at hm3
  generalize turn (run K P) (kAp b) = K3 at *
  generalize s2.sync.2 = s3 at *
  have hf3 : s3.files = K3 := by rw [hm3.files]; rfl
  have h4 : s3.rename nwN rtN = s3.work kRn := by
    unfold St.rename
    rw [if_neg (by decide), if_neg (by rw [hm3.alive]; decide), if_neg (by rw [hf3, hn2]; simp)]
  simp only [h4]
  rcases hm3.work kRn with hh | ⟨h40, hm4⟩
  · exact .inl ⟨K3, [], hh.seq, cr_nil hg2⟩
  rw [seq_ok (q := s3.work kRn) h40]
  rcases hm4.sync with hh | ⟨h50, hm5⟩
  · exact .inl ⟨K3, [kRn], hh, cr_rn hg2 hn2⟩
  have hr5 : run K3 ([] ++ [kRn]) = aput rtN (fbytes nwN K3) (adel nwN K3) := rfl
  rw [hr5] at hm5
  exact .inr ⟨h50, ⟨_, hm5, (hg2.ren hn2).1⟩, by rw [hm5.kept]; exact (hg2.ren hn2).2⟩
theorem save_cases {s : St} {o : Option (List Int)} {b : List Int} (h : Hd s o) (hb : b.length ≤ 200) :
    (∃ K P, Fl (saveS s b) K P ∧ Cr K P o b) ∨ ((saveS s b).1 = 0 ∧ Hd (saveS s b).2 (some b) ∧ aget nwN (saveS s b).2.kept = none) := by
  obtain ⟨K, hm, hg⟩ := h
  exact save_gen hm hg hb (cr_nil hg) (fun _ => ⟨cr_rm hg, cr_rm_ap hg hb⟩) (fun hn => cr_ap hg hn hb)
/-- A saving behind an appending to root.new that pends. -/
theorem save_left {s : St} {K : Fil} {o : Option (List Int)} {b x : List Int} (hm : Md s K [kAp x]) (hg : Gf K o) (hn : aget nwN K = none) (hx : x.length ≤ 200) (hb : b.length ≤ 200) :
    (∃ K P, Fl (saveS s b) K P ∧ Cr K P o b) ∨ ((saveS s b).1 = 0 ∧ Hd (saveS s b).2 (some b) ∧ aget nwN (saveS s b).2.kept = none) := by
  obtain ⟨g1, n1⟩ := run_ap hg hn hx
  obtain ⟨g2, n2⟩ := run_rm g1
  obtain ⟨g3, n3⟩ := run_ap g2 n2 hb
  have hr : run K [kAp x] = turn K (kAp x) := rfl
  refine save_gen hm (by rw [hr]; exact g1) hb (fun d cut => .inl ?_) (fun _ => ⟨fun d cut => .inl ?_, fun d cut => .inl ?_⟩) (fun h => by rw [hr, n1] at h; cases h)
  · match d with
    | 0 => exact part_ap hg hn hx cut
    | d + 1 =>
      have : crashF K [kAp x] (d + 1) cut = turn K (kAp x) := by unfold crashF; simp [run]
      rw [this]; exact g1
  · match d with
    | 0 => exact part_ap hg hn hx cut
    | 1 =>
      have : crashF K ([kAp x] ++ [kRm]) 1 cut = turn K (kAp x) := by unfold crashF part; simp [run]
      rw [this]; exact g1
    | d + 2 =>
      have : crashF K ([kAp x] ++ [kRm]) (d + 2) cut = turn (turn K (kAp x)) kRm := by unfold crashF; simp [run]
      rw [this]; exact g2
  · match d with
    | 0 => exact part_ap hg hn hx cut
    | 1 =>
      have : crashF K ([kAp x] ++ [kRm] ++ [kAp b]) 1 cut = turn K (kAp x) := by unfold crashF part; simp [run]
      rw [this]; exact g1
    | 2 =>
      have : crashF K ([kAp x] ++ [kRm] ++ [kAp b]) 2 cut = part (turn (turn K (kAp x)) kRm) (kAp b) cut := by unfold crashF; simp [run]
      rw [this]; exact part_ap g2 n2 hb cut
    | d + 3 =>
      have : crashF K ([kAp x] ++ [kRm] ++ [kAp b]) (d + 3) cut = turn (turn (turn K (kAp x)) kRm) (kAp b) := by unfold crashF; simp [run]
      rw [this]; exact g3
/-- A disk with no fuse does not fall. -/
structure Nf (q : Int × St) : Prop where
  err : q.1 ≠ 7
  fuse : q.2.fuse < 0
  alive : q.2.dead = false
section
variable {s : St} {q : Int × St}
theorem Nf.seq {f : St → Int × St} (h : Nf q) (hf : ∀ s : St, s.fuse < 0 → s.dead = false → Nf (f s)) : Nf (seqS q f) := by
  unfold seqS
  split
  · exact hf _ h.fuse h.alive
  · exact h
theorem nf_work (h1 : s.fuse < 0) (h2 : s.dead = false) (k : Wk) : Nf (s.work k) := by
  unfold St.work
  rw [if_neg (by omega)]
  refine ⟨(by show (0 : Int) ≠ 7; decide), ?_, h2⟩
  show (if 0 < s.fuse then s.fuse - 1 else s.fuse) < 0
  rw [if_neg (by omega)]
  exact h1
theorem nf_sync (h1 : s.fuse < 0) (h2 : s.dead = false) : Nf s.sync := by
  unfold St.sync
  rw [if_neg (by rw [h2]; decide), if_neg (by omega)]
  refine ⟨(by show (0 : Int) ≠ 7; decide), ?_, h2⟩
  show (if 0 < s.fuse then s.fuse - 1 else s.fuse) < 0
  rw [if_neg (by omega)]
  exact h1
theorem nf_same (h1 : s.fuse < 0) (h2 : s.dead = false) {c : Int} (hc : c ≠ 7) : Nf (c, s) := ⟨hc, h1, h2⟩
theorem nf_remove (h1 : s.fuse < 0) (h2 : s.dead = false) (n : Key) : Nf (s.remove n) := by
  unfold St.remove
  rw [if_neg (show ¬ s.dead = true by rw [h2]; decide)]
  repeat' split
  all_goals first | exact nf_work h1 h2 _ | exact nf_same h1 h2 (by decide)
theorem nf_append (h1 : s.fuse < 0) (h2 : s.dead = false) (n : Key) (l : List Int) : Nf (s.append n l) := by
  unfold St.append
  rw [if_neg (show ¬ s.dead = true by rw [h2]; decide)]
  repeat' split
  all_goals first | exact nf_work h1 h2 _ | exact nf_same h1 h2 (by decide)
theorem nf_rename (h1 : s.fuse < 0) (h2 : s.dead = false) (n m : Key) : Nf (s.rename n m) := by
  unfold St.rename
  rw [if_neg (show ¬ s.dead = true by rw [h2]; decide)]
  repeat' split
  all_goals first | exact nf_work h1 h2 _ | exact nf_same h1 h2 (by decide)
theorem nf_save (h1 : s.fuse < 0) (h2 : s.dead = false) (b : List Int) : Nf (saveS s b) := by
  have h0 : Nf (if ex s nwN = true then s.remove nwN else (0, s)) := by
    split
    · exact nf_remove h1 h2 _
    · exact nf_same h1 h2 (by decide)
  exact (((h0.seq fun s a c => nf_append a c _ _).seq fun s a c => nf_sync a c).seq fun s a c => nf_rename a c _ _).seq fun s a c => nf_sync a c
end
/-- A saving with no fuse goes well. -/
theorem save_ok {s : St} {o : Option (List Int)} {b : List Int} (h : Hd s o) (hb : b.length ≤ 200) (hf : s.fuse < 0) : (saveS s b).1 = 0 ∧ Hd (saveS s b).2 (some b) ∧ aget nwN (saveS s b).2.kept = none ∧ (saveS s b).2.fuse < 0 := by
  have hal : s.dead = false := by obtain ⟨K, hm, _⟩ := h; exact hm.alive
  have hn := nf_save hf hal b
  rcases save_cases h hb with ⟨K, P, h1, _⟩ | ⟨h1, h2, h3⟩
  · exact absurd h1.err hn.err
  · exact ⟨h1, h2, h3, hn.fuse⟩
/-- The names of the files, where root alone is left. -/
theorem Gf.names {F : Fil} {b : List Int} (h : Gf F (some b)) (hn : aget nwN F = none) : F = [(rtN, b)] := by
  have hm := aget_mem h.rt
  have hall : ∀ e ∈ F, e = (rtN, b) := fun ⟨n, a⟩ he => by
    have h1 := aget_of_mem h.asc he
    rcases h.only n (by rw [h1]; rfl) with e | e
    · subst e
      rw [h.rt] at h1
      simp only [Option.some.injEq] at h1
      rw [h1]
    · rw [e, hn] at h1; cases h1
  match F, h.asc, hm, hall with
  | [x], _, _, hall => rw [hall x List.mem_cons_self]
  | x :: y :: r, hasc, _, hall =>
    have hp := (List.pairwise_cons.1 hasc).1 y List.mem_cons_self
    rw [hall x List.mem_cons_self, hall y (List.mem_cons_of_mem _ List.mem_cons_self), bb_irrefl] at hp
    cases hp
/-- Behind a crash of a saving that fell. -/
theorem Fl.crash {q : Int × St} {K : Fil} {P : List Wk} {o : Option (List Int)} {b : List Int} (h : Fl q K P) (hc : Cr K P o b) (a cut : Int) : Hd (q.2.crash a cut) o ∨ Hd (q.2.crash a cut) (some b) := by
  have hm := crash_md q.2 a cut h.room
  rw [h.kept, h.pend] at hm
  rcases hc (a % ((P.length : Int) + 1)).toNat cut with hh | hh
  · exact .inl ⟨_, hm, hh⟩
  · exact .inr ⟨_, hm, hh⟩
end Go.Proofs.YtfneadlknieppaaDoor
