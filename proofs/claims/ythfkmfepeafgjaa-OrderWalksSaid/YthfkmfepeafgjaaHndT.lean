/- What the hand's Request puts together: what lies beside; a commit more. No condition. -/
import Derived.Test.YthfkmfepeafgjaaHndQ
import Derived.Test.YthfkmfepeafgjaaGenPick
namespace Go.Proofs.Ythfkmfepeafgjaa
open Go.RowKit
open Go.Maps

/-- A raw commit: its number, how, its parents. -/
structure Rw where
  n : Int
  how : Int
  pv : Value
  ps : List Int
/-- Raw commits that came in. -/
def RwSeen (w : World) (v : Value) (R : List Rw) : Prop :=
  ∃ p cap, v = .slice p R.length cap ∧ ∀ (i : Nat) (x : Rw), R[i]? = some x → ∃ b o, p = some ⟨b, o, none⟩ ∧ w.rangeAt b (o + i * 3) [.int .i64 x.n, .int .i64 x.how, x.pv] ∧ ISeen w x.pv x.ps
theorem rng_kb {w w' : World} {b o : Nat} {l : List Value} (h : w.rangeAt b o l) (k : Below w.heap.size w w') : w'.rangeAt b o l := fun j u hj => by
  have h1 := h j u hj
  rw [World.cell?_of_block (k.block _ (World.block_lt_of_cell? w _ h1))]
  exact h1
theorem RwSeen.kb {w w' : World} {v : Value} {R : List Rw} (h : RwSeen w v R) (k : Below w.heap.size w w') : RwSeen w' v R := by
  obtain ⟨p, cap, rfl, hx⟩ := h
  refine ⟨p, cap, rfl, fun i x hi => ?_⟩
  obtain ⟨b, o, h1, h2, h3⟩ := hx i x hi
  exact ⟨b, o, h1, rng_kb h2 k, h3.kb' k⟩
/-- The raw request, and the result's cell, beside it. -/
structure XS (w W : World) (B bx rz rb : Nat) (vL vH : Value) (grp how : Int) : Prop where
  bel : Below B w W
  hB : B = w.heap.size
  xb : W.heap[bx]? = some (.cells #[vL, vH, .int .i64 grp, .int .i64 how] 68 (0, 0))
  zero : W.heap[rz]? = some (.cells #[.slice none 0 0, .slice none 0 0, .int .i64 0] 64 (0, 0))
  ne : rz ≠ rb
section
variable {w W W' : World} {B bx rz rb : Nat} {vL vH : Value} {grp how : Int}
theorem XS.kb (H : XS w W B bx rz rb vL vH grp how) (k : Below W.heap.size W W') : XS w W' B bx rz rb vL vH grp how :=
  ⟨H.bel.trans (k.mono (H.hB ▸ H.bel.size)), H.hB, (mild_below k).cells H.xb, (mild_below k).cells H.zero, H.ne⟩
theorem XS.c (H : XS w W B bx rz rb vL vH grp how) : W.cell? ⟨bx, 0, none⟩ = some vL ∧ W.cell? ⟨bx, 1, none⟩ = some vH ∧ W.cell? ⟨bx, 2, none⟩ = some (.int .i64 grp) ∧ W.cell? ⟨bx, 3, none⟩ = some (.int .i64 how) := by
  refine ⟨?_, ?_, ?_, ?_⟩ <;> rw [cell_of_row W bx _ _ _ _ H.xb] <;> rfl
theorem XS.of (H : XS w W B bx rz rb vL vH grp how) : Below w.heap.size w W := H.hB ▸ H.bel
/-- A step that turns the request, or a slice of its own of hashes or commits. -/
theorem XS.far (H : XS w W B bx rz rb vL vH grp how) {v : Value} {e : TypeId} {s n : Nat} {xs : List Value} (ho : Only (fun j => j = rb ∨ v.ownBlock = some j) W W') (o : W.ownsRow B e s v n xs) (he : e ≠ 68 ∧ e ≠ 64) (hr : B ≤ rb) {rc : Array Value} (hrb : W.heap[rb]? = some (.cells rc 64 (0, 0))) : XS w W' B bx rz rb vL vH grp how := by
  refine ⟨H.bel.trans (ho.below (H.hB ▸ H.bel.size) fun k hk => ?_), H.hB, (ho.block bx (Array.getElem?_eq_some_iff.1 H.xb).1 fun e => ?_).trans H.xb, (ho.block rz (Array.getElem?_eq_some_iff.1 H.zero).1 fun e => ?_).trans H.zero, H.ne⟩
  · rcases hk with rfl | hk
    · exact hr
    · exact (own_type o hk).choose_spec.2
  · rcases e with e | e
    · have := H.xb; rw [e, hrb] at this; injection this with this; injection this with _ this _; exact absurd this (by decide)
    · exact own_apart o H.xb (fun h => he.1 h.symm) e
  · rcases e with e | e
    · exact H.ne e
    · exact own_apart o H.zero (fun h => he.2 h.symm) e
end
/-- The form of a slice of one's own. -/
def CForm (v : Value) (n : Nat) : Prop := v = .slice none 0 0 ∨ ∃ b cap, v = .slice (some ⟨b, 0, none⟩) n cap ∧ n ≤ cap
/-- What Request hands back. -/
def RqPost (w : World) (e : Ending) (w' : World) : Prop :=
  ∃ vc vh g cs hs, e = .returned (.agg #[vc, vh, .int .i64 g]) ∧ CSeen w' vc cs ∧ HSeen w' vh hs ∧ COk cs ∧ H32 hs ∧ (∀ c ∈ cs, c.2.length ≤ 10) ∧ cs.length ≤ 100 ∧ hs.length ≤ 100 ∧ Below w.heap.size w w' ∧ CForm vc cs.length
theorem ld_rw {w : World} {b o : Nat} {x : Rw} (h : w.rangeAt b o [.int .i64 x.n, .int .i64 x.how, x.pv]) : w.cell? ⟨b, o, none⟩ = some (.int .i64 x.n) ∧ w.cell? ⟨b, o + 1, none⟩ = some (.int .i64 x.how) ∧ w.cell? ⟨b, o + 2, none⟩ = some x.pv := ⟨by simpa using h 0 _ rfl, h 1 _ rfl, h 2 _ rfl⟩
theorem ISeen.at' {w : World} {p : Option Addr} {n c : Nat} {l : List Int} (h : ISeen w (.slice p n c) l) {j : Nat} {x : Int} (hj : l[j]? = some x) : ∃ a, p = some a ∧ w.cell? (a.add j) = some (.int .i64 x) := by
  rcases h with ⟨_, rfl⟩ | ⟨a, cap, h1, _, h2⟩
  · simp at hj
  · injection h1 with h1
    exact ⟨a, h1, h2 j x hj⟩
theorem ISeen.cell' {w : World} {a : Addr} {n c : Nat} {l : List Int} (h : ISeen w (.slice (some a) n c) l) {j : Nat} {x : Int} (hj : l[j]? = some x) : w.cell? (a.add j) = some (.int .i64 x) := by
  obtain ⟨a', h1, h2⟩ := h.at' hj
  injection h1 with h1
  subst h1
  exact h2
theorem own_mono {w : World} {B A : Nat} {e : TypeId} {s : Nat} {v : Value} {n : Nat} {xs : List Value} (h : w.ownsRow B e s v n xs) (hA : A ≤ B) : w.ownsRow A e s v n xs := by
  refine ⟨h.1, ?_⟩
  rcases h.2 with h1 | ⟨g, cap, cur, rfl, hb, h3⟩
  · exact .inl h1
  · exact .inr ⟨g, cap, cur, rfl, Nat.le_trans hA hb, h3⟩
/-- A slice of one hash that was built now. -/
theorem own_hash {w : World} {b : Nat} {h : Key} (hh : h.length = 32) (hb : w.heap[b]? = some (.cells (hv h) 28 (0, 0))) {B : Nat} (hB : B ≤ b) : HOwn w B (.slice (some ⟨b, 0, none⟩) 1 1) [h] := by
  have hf : fl [h] = us (nmb h) := by simp [fl]
  refine ⟨by rw [hf, usn_length, hh]; rfl, .inr ⟨b, 1, hv h, rfl, hB, hb, Nat.le_refl _, by decide, by rw [hv_size, hh], ?_⟩⟩
  rw [hf, hv_list, List.take_of_length_le]
  rw [usn_length, hh]; exact Nat.le_refl _
theorem own_first {w : World} {B : Nat} {p : Option Addr} {m c : Nat} {ps tl : List Key} {x : Key} (h : HOwn w B (.slice p m c) ps) (hps : ps = x :: tl) : ∃ gp, p = some ⟨gp, 0, none⟩ := by
  obtain ⟨g, cap, R, e, _⟩ := HOwn.row h (by rw [hps]; simp)
  injection e with e
  exact ⟨g, e⟩
theorem own_first' {w : World} {B gp : Nat} {m c : Nat} {ps tl : List Key} {x : Key} (h : HOwn w B (.slice (some ⟨gp, 0, none⟩) m c) ps) (hps : ps = x :: tl) : w.rangeAt gp 0 (us (nmb x)) := by
  obtain ⟨g, cap, R, e, _, hg, _⟩ := HOwn.row h (by rw [hps]; simp)
  injection e with e _ _
  injection e with e
  injection e with e _ _
  subst e
  intro j v hj
  refine range_row hg j v ?_
  show (fl ps ++ R)[j]? = some v
  rw [hps, show fl (x :: tl) = us (nmb x) ++ fl tl by simp [fl], List.append_assoc, List.getElem?_append_left (List.getElem?_eq_some_iff.1 hj).1]
  exact hj
theorem YB.y2 {W W0 : World} {yb : Nat} {a b c : Value} {yt : TypeId} {B8 : Nat} {v8 : Value} {l8 : List Int} (H : YB W W0 yb #[a, b, c] yt B8 v8 l8) : W.cell? ⟨yb, 0, none⟩ = some a ∧ W.cell? ⟨yb, 1, none⟩ = some b ∧ W.cell? ⟨yb, 2, none⟩ = some c := by
  refine ⟨?_, ?_, ?_⟩ <;> rw [cell_of_row W yb _ _ _ _ H.y] <;> rfl
theorem cf_ones {h : Key} {u : Value} (hu : u.oneCell' = true) : ∀ v ∈ cf [(h, u)], v.oneCell' = true := fun v hv' => by
  rw [cf_one] at hv'
  rcases List.mem_append.1 hv' with h1 | h1
  · have := hv_one h
    rw [← hv_list] at h1
    have := Array.all_eq_true_iff_forall_mem.1 this v (Array.mem_toList_iff.1 h1)
    exact this
  · rw [List.mem_singleton.1 h1]; exact hu
section
variable {ops : Array Oper} {rest : List Oper} {a : Act} {Q : Exit → Act → World → Prop} {o : Oper} {w0 w : World}
/-- append of a commit to the request's own. -/
theorem push_comm (hgd : o.guard = none) (s x : Operand) (ho : o.op = .call { callee := .builtin .append, args := #[s, x], argTypes := #[46, 46] })
    {B rb bx rz : Nat} {pc : Option Addr} {nC cc : Nat} {vh : Value} {g : Int} {C : Cv} {cs : List Cm} {hs : List Key} {vL vH : Value} {grp how : Int} {h : Key} {u : Value} {ps : List Key} {b : Nat}
    (hs' : a.eval s = .slice pc nC cc) (hx : a.eval x = .slice (some ⟨b, 0, none⟩) 1 1) (hb : w.heap[b]? = some (.cells (cf [(h, u)]).toArray 49 (0, 0)))
    (R : RI w B rb (.slice pc nC cc) vh g C cs hs) (hn : nC = C.length) (X : XS w0 w B bx rz rb vL vH grp how) (hh : h.length = 32) (p32 : H32 ps) (pl : ps.length ≤ 10) (ou : HOwn w B u ps) (su : ∀ j, u.ownBlock = some j → vh.ownBlock ≠ some j) (hl : nC ≤ 1000000)
    (K : ∀ (g5 c5 : Nat) (w' : World), w'.cell? ⟨rb, 0, none⟩ = some (.slice pc nC cc) → w'.frozen? ⟨rb, 0, none⟩ = false →
      RI (w'.setCell ⟨rb, 0, none⟩ (.slice (some ⟨g5, 0, none⟩) (nC + 1) c5)) B rb (.slice (some ⟨g5, 0, none⟩) (nC + 1) c5) vh g (C ++ [(h, u)]) (cs ++ [(h, ps)]) hs →
      XS w0 (w'.setCell ⟨rb, 0, none⟩ (.slice (some ⟨g5, 0, none⟩) (nC + 1) c5)) B bx rz rb vL vH grp how →
      Only (fun j => j = rb ∨ (Value.slice pc nC cc).ownBlock = some j) w (w'.setCell ⟨rb, 0, none⟩ (.slice (some ⟨g5, 0, none⟩) (nC + 1) c5)) →
      wpList Try.prog ops Q rest (a.put o.dst (.slice (some ⟨g5, 0, none⟩) (nC + 1) c5)) w') :
    wpList Try.prog ops Q (o :: rest) a w := by
  obtain ⟨i0, hi0, hz0, hz1, hz2⟩ := info_parts czinfo
  have hus : u.oneCell' = true := by
    rcases ou.2 with ⟨rfl, _⟩ | ⟨_, _, _, rfl, _⟩ <;> rfl
  have hcl : (cf [(h, u)]).length = 1 * 33 := by rw [cf_length (by simpa using hh)]; rfl
  refine wpList_append_lies w hgd s x 46 ho B 49 i0 _ 33 56 Try.underlying46 hi0 hz0 hz1 hz2 rfl (by decide) (.slice pc nC cc) nC (cf C) hs' (by rw [hn]; exact hn ▸ R.row) ⟨b, 0, none⟩ 1 1 (cf [(h, u)]) hx hcl (World.news_of_block hb) (cf_ones hus) (by decide) (by unfold maxLen; omega) (by omega) (X.hB ▸ X.bel.size) _ rfl ?_
  intro g5 c5 w' o' gr _ _
  have oth : Only (fun j => (Value.slice pc nC cc).ownBlock = some j) w w' := (Only.refl _ w).grown gr (fun k _ e => e)
  have hc := R.cmid oth
  have hcm := R.comm (v := .slice (some ⟨g5, 0, none⟩) (nC + 1) c5) (m := nC + 1) (by rw [hn]) hh p32 pl (by rw [cf_app]; exact o') oth ou su
  exact K g5 c5 w' (by rw [cell_of_row w' rb 0 _ _ _ hc]; rfl) (frozen_of_row _ _ _ _ _ hc) hcm.1 (X.far hcm.2 R.row (by decide) R.lo R.cell) hcm.2
end
end Go.Proofs.Ythfkmfepeafgjaa
