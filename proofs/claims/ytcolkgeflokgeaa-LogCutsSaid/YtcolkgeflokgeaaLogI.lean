/- A disk whose one file is the log's: plain mathematics. No condition. · Slices of slices of bytes that came in, each byte a byte; strings of the caller's own. No condition. -/
import Derived.Test.YtcolkgeflokgeaaLogK
import Derived.Test.YtcolkgeflokgeaaDskO
import Derived.Test.YtcolkgeflokgeaaDskRb
import Derived.Test.YtcolkgeflokgeaaGenFew3
namespace Go.Proofs.Ytcolkgeflokgeaa
open Go.RowKit
open Go.Maps

/-- The disk's one file holds X; at most wk works were done. -/
structure OneF (s : St) (X : List Int) (wk : Nat) : Prop where
  dead : s.dead = false
  fuse : s.fuse = -1
  room : s.room = 100000
  fb : fbytes [102] s.files = X
  tot : totF s.files = X.length
  asc : AAsc s.files
  works : s.works ≤ wk
theorem OneF.new : OneF (St.new 100000) [] 0 := by
  have e : St.new 100000 = ⟨100000, [], [], -1, false, 0⟩ := by
    unfold St.new
    rw [show max 0 (min (100000 : Int) 16777216) = 100000 from by decide]
  rw [e]
  exact ⟨rfl, rfl, rfl, rfl, rfl, AAsc.nil, Nat.le_refl _⟩
theorem some_of_bytes {n : Key} {F : Fil} (h : fbytes n F ≠ []) : (aget n F).isSome = true := by
  unfold fbytes at h
  cases hg : aget n F <;> simp_all
theorem OneF.mono {s : St} {X : List Int} {wk wk' : Nat} (h : OneF s X wk) (hw : wk ≤ wk') : OneF s X wk' := { h with works := Nat.le_trans h.works hw }
section
variable {s : St} {X : List Int} {wk : Nat}
theorem OneF.work (h : OneF s X wk) (k : Wk) : (s.work k).1 = 0 ∧ (s.work k).2 = { s with pend := s.pend ++ [k], fuse := -1, works := s.works + 1 } := by
  unfold St.work
  rw [if_neg (by rw [h.fuse]; decide)]
  refine ⟨rfl, ?_⟩
  rw [h.fuse]
  rfl
theorem OneF.worked (h : OneF s X wk) (k : Wk) {Y : List Int} (hf : fbytes [102] (turn s.files k) = Y) (ht : totF (turn s.files k) = Y.length) : OneF (s.work k).2 Y (wk + 1) := by
  have e := (h.work k).2
  have ef : (s.work k).2.files = turn s.files k := by rw [e]; exact run_snoc _ _ _
  rw [e] at ef ⊢
  exact ⟨h.dead, rfl, h.room, by rw [ef]; exact hf, by rw [ef]; exact ht, by rw [ef]; exact turn_asc h.asc k, Nat.succ_le_succ h.works⟩
theorem OneF.used (h : OneF s X wk) : s.used = X.length := h.tot
theorem OneF.append (h : OneF s X wk) (l : List Int) (hl : X.length + l.length ≤ 100000) : (s.append [102] l).1 = 0 ∧ (s.append [102] l).2 = (s.work ⟨0, [102], [], l, 0⟩).2 ∧ OneF (s.append [102] l).2 (X ++ l) (wk + 1) := by
  have e : s.append [102] l = s.work ⟨0, [102], [], l, 0⟩ := by
    unfold St.append
    rw [if_neg (by decide), if_neg (by rw [h.dead]; decide), if_neg (by rw [h.room, h.used]; omega)]
  rw [e]
  refine ⟨(h.work _).1, rfl, h.worked _ ?_ ?_⟩
  · rw [show turn s.files ⟨0, [102], [], l, 0⟩ = aput [102] (fbytes [102] s.files ++ l) s.files from rfl, fbytes_put_same, h.fb]
  · rw [turn_app_tot _ h.asc, h.tot, List.length_append]
theorem OneF.truncate (h : OneF s X wk) (n : Nat) (hn : n ≤ X.length) (h0 : X ≠ []) : (s.truncate [102] n).1 = 0 ∧ OneF (s.truncate [102] n).2 (X.take n) (wk + 1) := by
  have e : s.truncate [102] n = s.work ⟨1, [102], [], [], n⟩ := by
    unfold St.truncate
    rw [if_neg (by decide), if_neg (by rw [h.dead]; decide), if_neg (by rw [some_of_bytes (by rw [h.fb]; exact h0)]; decide), if_neg (by rw [h.fb]; omega), Int.toNat_natCast]
  have ht : turn s.files ⟨1, [102], [], [], n⟩ = aput [102] ((fbytes [102] s.files).take n) s.files := rfl
  rw [e]
  refine ⟨(h.work _).1, h.worked _ ?_ ?_⟩
  · rw [ht, fbytes_put_same, h.fb]
  · have h1 := totF_put [102] ((fbytes [102] s.files).take n) h.asc
    rw [ht]
    rw [h.fb, h.tot] at h1
    rw [h.fb]
    omega
theorem OneF.sync (h : OneF s X wk) : s.sync.1 = 0 ∧ OneF s.sync.2 X (wk + 1) ∧ s.sync.2.kept = s.files ∧ s.sync.2.pend = [] := by
  have e : s.sync = (0, { s with kept := s.files, pend := [], fuse := -1, works := s.works + 1 }) := by
    unfold St.sync
    rw [if_neg (by rw [h.dead]; decide), if_neg (by rw [h.fuse]; decide), h.fuse]
    rfl
  rw [e]
  exact ⟨rfl, ⟨h.dead, rfl, h.room, h.fb, h.tot, h.asc, Nat.succ_le_succ h.works⟩, rfl, rfl⟩
theorem OneF.rd (h : OneF s X wk) : s.rd [102] = X := by
  unfold St.rd
  rw [if_neg (by rw [h.dead]; decide)]
  exact h.fb
/-- Opening at the end of the records R, behind which there is T. -/
theorem OneF.opened {R : List Rc} {T : List Int} (h : OneF s (encs R ++ T) wk) (hR : ∀ r ∈ R, Rok r) : (openS s [102] (ends R)).1 = 0 ∧ (openS s [102] (ends R)).2.2 = R ∧ OneF (openS s [102] (ends R)).2.1 (encs R) (wk + 1) := by
  have ht : (encs R ++ T).take (ends R) = encs R := by rw [← encs_len R]; exact List.take_left' rfl
  have hl : (encs R ++ T).length = ends R + T.length := by rw [List.length_append, encs_len]
  unfold openS
  rw [if_neg (by omega), h.rd, if_neg (by rw [hl]; omega), Int.toNat_natCast, ht, dec_all hR, if_neg (by simp)]
  by_cases hT : T.length = 0
  · obtain rfl := List.eq_nil_of_length_eq_zero hT
    rw [if_neg (by rw [hl]; simp)]
    rw [List.append_nil] at h
    exact ⟨rfl, rfl, h.mono (Nat.le_succ _)⟩
  · rw [if_pos (by rw [hl]; omega)]
    obtain ⟨h1, h2⟩ := h.truncate (ends R) (by rw [hl]; omega) (by intro e; rw [e] at hl; simp at hl; omega)
    rw [if_pos h1]
    rw [ht] at h2
    exact ⟨rfl, rfl, h2⟩
theorem OneF.open0 (h : OneF s [] wk) : openS s [102] 0 = (0, s, []) := by
  unfold openS
  rw [if_neg (by omega), h.rd]
  rfl
/-- One more record. -/
theorem OneF.added {R : List Rc} (h : OneF s (encs R) wk) {k : Int} {x : List Int} (hr : Rok (k, x)) (hl : ends R + (9 + x.length) ≤ 100000) : (addS s [102] R k x).1 = 0 ∧ (addS s [102] R k x).2.2 = R ++ [(k, x)] ∧ OneF (addS s [102] R k x).2.1 (encs (R ++ [(k, x)])) (wk + 1) ∧ (addS s [102] R k x).2.1 = (s.append [102] (frm k x)).2 := by
  obtain ⟨a, b, c⟩ := h.append (frm k x) (by rw [encs_len, frm_len]; omega)
  have hb := hr
  obtain ⟨h1, h2, h3, _⟩ := hr
  simp only at h1 h2 h3
  unfold addS
  rw [if_neg (by omega), if_pos a, encs_snoc]
  exact ⟨rfl, rfl, c, rfl⟩
/-- What pends are pieces behind the files F. -/
structure Pnd (s : St) (F : Fil) (xs : List (List Int)) : Prop where
  kept : s.kept = F
  pend : s.pend = wks xs
theorem Pnd.append {F : Fil} {xs : List (List Int)} (p : Pnd s F xs) (h : OneF s X wk) (l : List Int) (hl : X.length + l.length ≤ 100000) : Pnd (s.append [102] l).2 F (xs ++ [l]) := by
  obtain ⟨_, e, _⟩ := h.append l hl
  rw [e, (h.work _).2]
  exact ⟨p.kept, by rw [wks_app, p.pend]⟩
theorem crash_wks {F : Fil} (hF : AAsc F) (xs : List (List Int)) (d : Nat) (cut : Int) : fbytes [102] (crashF F (wks xs) d cut) = fbytes [102] F ++ leftO xs d cut ∧ totF (crashF F (wks xs) d cut) = totF F + (leftO xs d cut).length ∧ AAsc (crashF F (wks xs) d cut) := by
  unfold crashF leftO
  rw [wks_take]
  obtain ⟨h1, h2, h3⟩ := run_wks (xs.take d) F hF
  have hg : (wks xs)[d]? = (xs[d]?).map fun x => ⟨0, [102], [], x, 0⟩ := by simp [wks]
  rw [hg]
  cases hx : xs[d]? with
  | none => simp only [Option.map_none, List.append_nil]; exact ⟨h2, h3, h1⟩
  | some x =>
    simp only [Option.map_some]
    unfold part
    rw [if_pos rfl]
    by_cases h0 : cut % ((x.length : Int) + 1) = 0
    · rw [if_pos h0, h0]
      simp only [Int.toNat_zero, List.take_zero, List.append_nil]
      exact ⟨h2, h3, h1⟩
    · rw [if_neg h0]
      refine ⟨?_, ?_, h1.put _ _⟩
      · rw [fbytes_put_same, h2, List.append_assoc]
      · have := totF_put [102] (fbytes [102] (run F (wks (xs.take d))) ++ x.take (cut % ((x.length : Int) + 1)).toNat) h1
        simp only [List.length_append] at this ⊢
        omega
theorem leftO_okb {xs : List (List Int)} (h : ∀ x ∈ xs, Okb x) (d : Nat) (cut : Int) : Okb (leftO xs d cut) := by
  intro y hy
  unfold leftO at hy
  rcases List.mem_append.1 hy with hy | hy
  · obtain ⟨x, hx, hy⟩ := List.mem_flatten.1 hy
    exact h x (List.mem_of_mem_take hx) y hy
  · cases hx : xs[d]? with
    | none => rw [hx] at hy; simp at hy
    | some x =>
      rw [hx] at hy
      exact h x (List.mem_of_getElem? hx) y (List.mem_of_mem_take hy)
/-- Behind a crash. -/
theorem OneF.crashed {F : Fil} {xs : List (List Int)} {X0 : List Int} (h : OneF s X wk) (p : Pnd s F xs) (hF : AAsc F) (hb : fbytes [102] F = X0) (ht : totF F = X0.length) (hx : ∀ x ∈ xs, Okb x) (done cut : Int) :
    ∃ T, Okb T ∧ OneF (s.crash done cut) (X0 ++ T) wk := by
  obtain ⟨c1, c2, c3⟩ := crash_wks hF xs (done % ((s.pend.length : Int) + 1)).toNat cut
  refine ⟨_, leftO_okb hx (done % ((s.pend.length : Int) + 1)).toNat cut, ?_⟩
  have hf : (s.crash done cut).files = crashF F (wks xs) (done % ((s.pend.length : Int) + 1)).toNat cut := by
    unfold St.files St.crash
    rw [p.kept, p.pend]
    rfl
  refine ⟨rfl, rfl, h.room, ?_, ?_, ?_, h.works⟩
  · rw [hf, c1, hb]
  · rw [hf, c2, ht, List.length_append]
  · rw [hf]; exact c3
end
end Go.Proofs.Ytcolkgeflokgeaa
namespace Go.Proofs.Ytcolkgeflokgeaa
open Go.RowKit Go.ChangeShapes Go.WideShapes Go.Deep
open Go.Maps

theorem lists_ok {H : Type} {enc : TypeId × Value → H} {w : World} {base : Nat} {spare : Nat → Bool} {held : Bool} {a0 : Option Addr} {len cap fuel : Nat} {d : DataW H} {p : List MemPlace}
    (h : DataW.trod enc Try.prog w base spare held fuel 22 [.slice a0 len cap] = some (d, p)) : ∃ E : List (List Int), E.length = len ∧ LSeen w a0 E ∧ ∀ x ∈ E, Okb x := by
  rcases open_slice Try.underlying22 h with ⟨h1, h2⟩ | ⟨a, len', cap', m, n, D, Pl, hcs, hb, hl, hm, hmm, hx, hi⟩
  · simp at h1
    obtain ⟨rfl, rfl, rfl⟩ := h1
    exact ⟨[], rfl, fun j x hj => by simp at hj, fun x hx => by simp at hx⟩
  · simp at hcs
    obtain ⟨rfl, rfl, rfl⟩ := hcs
    obtain ⟨f, hf⟩ := choose_lt (n := len) (α := List Int) (p := fun i x => Okb x ∧ ∃ q c, w.cell? (a.add i) = some (.slice q x.length c) ∧ Seen w (.slice q x.length c) x) (fun i hil => by
      have him : i < m := by rw [hmm]; split <;> omega
      obtain ⟨cs, h3, h4⟩ := hi i him
      rw [rowCells] at h3
      obtain ⟨hbase, hcl, hat⟩ := World.cells?_some h3
      obtain ⟨z0, rfl⟩ : ∃ z, cs = [z] := List.length_eq_one_iff.1 hcl
      have g0 := hat 0 (by omega)
      simp only [List.getElem?_cons_zero, Nat.mul_one] at g0
      obtain ⟨q, n0, c0, rfl⟩ : ∃ q n c, z0 = .slice q n c := by
        rcases open_slice Try.underlying32 h4 with ⟨h1, _⟩ | ⟨a', l', c', _, _, _, _, h1, _⟩
        · simp at h1; exact ⟨_, _, _, h1⟩
        · simp at h1; exact ⟨_, _, _, h1⟩
      obtain ⟨x, hxl, hok, hs, _⟩ := bytes_in h4
      subst hxl
      refine ⟨x, hok, q, c0, ?_, hs⟩
      rwa [add_add, Nat.add_zero] at g0)
    refine ⟨(List.range len).map f, by simp, fun j x hj => ?_, fun x hx => ?_⟩
    · have hjl := (List.getElem?_eq_some_iff.1 hj).1
      simp at hjl
      obtain ⟨_, q, c, h1, h2⟩ := hf j hjl
      simp [hjl] at hj
      subst hj
      exact ⟨a, q, c, rfl, h1, h2⟩
    · obtain ⟨j, hj, rfl⟩ := List.mem_map.1 hx
      exact (hf j (List.mem_range.1 hj)).1
theorem sinfo : (Try.prog.info? 9).map (fun i => (i.zero, i.size, i.bytes)) = some (some (.string ⟨#[]⟩), 1, 16) := by kernel_rfl
/-- The bodies as texts. -/
def tsts (R : List Rc) : List Value := R.map fun r => .string (strOfNums r.2)
theorem tsts_length (R : List Rc) : (tsts R).length = R.length := by simp [tsts]
theorem tsts_snoc (R : List Rc) (r : Rc) : tsts (R ++ [r]) = tsts R ++ [.string (strOfNums r.2)] := by simp [tsts]
theorem tsts_at {R : List Rc} {j : Nat} (hj : j < R.length) : (tsts R)[j]? = some (.string (strOfNums R[j].2)) := by simp [tsts, hj]
def pcs (R : List Rc) : List (List Int) := R.map fun r => frm r.1 r.2
theorem pcs_snoc (R : List Rc) (r : Rc) : pcs (R ++ [r]) = pcs R ++ [frm r.1 r.2] := by simp [pcs]
theorem pcs_okb {R : List Rc} (h : ∀ r ∈ R, Rok r) : ∀ x ∈ pcs R, Okb x := fun x hx => by
  obtain ⟨r, hr, rfl⟩ := List.mem_map.1 hx
  exact frm_ok _ (h r hr).2.2.2
theorem ends_le {R : List Rc} {n : Nat} (h : ∀ r ∈ R, r.2.length ≤ n) : ends R ≤ (9 + n) * R.length := by
  induction R with
  | nil => simp [ends]
  | cons r R ih =>
    have h1 := h r (List.mem_cons_self ..)
    have h2 := ih fun x hx => h x (List.mem_cons_of_mem _ hx)
    rw [ends_cons, List.length_cons, Nat.mul_add]
    omega
end Go.Proofs.Ytcolkgeflokgeaa
