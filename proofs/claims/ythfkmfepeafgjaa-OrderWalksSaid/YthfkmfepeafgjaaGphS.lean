/- What lists of hashes lead to: reach. Conditions: hashes of 32 bytes; no more than 4000 hashes in all, no list of more than 1000. -/
import Derived.Test.YthfkmfepeafgjaaGphR
import Derived.Test.YthfkmfepeafgjaaGenApp
namespace Go.Proofs.Ythfkmfepeafgjaa
open Go.RowKit
open Go.Maps
attribute [local go_sem ↓] hld_open

/-- b comes of a by steps along f. -/
inductive Up (f : Key → List Key) : Key → Key → Prop
  | refl (a : Key) : Up f a a
  | step {a b c : Key} (h : b ∈ f a) (k : Up f b c) : Up f a c
theorem Up.one {f : Key → List Key} {a b : Key} (h : b ∈ f a) : Up f a b := .step h (.refl b)
theorem Up.trans {f : Key → List Key} {a b c : Key} (h : Up f a b) (k : Up f b c) : Up f a c := by
  induction h with
  | refl => exact k
  | step h1 _ ih => exact .step h1 (ih k)
theorem Up.snoc {f : Key → List Key} {a b c : Key} (h : Up f a b) (k : c ∈ f b) : Up f a c := h.trans (.one k)
/-- What has been reached, R, and what is to be gone through, T. -/
structure RInv (f : Key → List Key) (E R T : List Key) : Prop where
  up : ∀ x, x ∈ R ∨ x ∈ T → ∃ a ∈ E, Up f a x
  src : ∀ a ∈ E, a ∈ R ∨ a ∈ T
  clo : ∀ x ∈ R, ∀ p ∈ f x, p ∈ R ∨ p ∈ T
theorem RInv.start (f : Key → List Key) (E : List Key) : RInv f E [] E := ⟨fun x h => h.elim (fun h => by cases h) fun h => ⟨x, h, .refl x⟩, fun _ h => .inr h, fun _ h => by cases h⟩
theorem RInv.old {f : Key → List Key} {E R T : List Key} {x : Key} (h : RInv f E R (T ++ [x])) (hx : x ∈ R) : RInv f E R T := by
  have g : ∀ y, y ∈ R ∨ y ∈ T ++ [x] → y ∈ R ∨ y ∈ T := fun y hy => by
    rcases hy with hy | hy
    · exact .inl hy
    · rcases List.mem_append.1 hy with hy | hy
      · exact .inr hy
      · rw [List.mem_singleton.1 hy]; exact .inl hx
  exact ⟨fun y hy => h.up y (hy.imp id fun e => List.mem_append_left _ e), fun a ha => g a (h.src a ha), fun y hy p hp => g p (h.clo y hy p hp)⟩
theorem RInv.new {f : Key → List Key} {E R R' T : List Key} {x : Key} (h : RInv f E R (T ++ [x])) (hR : ∀ y, y ∈ R' ↔ y = x ∨ y ∈ R) : RInv f E R' (T ++ f x) := by
  obtain ⟨a, ha, hax⟩ := h.up x (.inr (List.mem_append_right _ List.mem_cons_self))
  have g : ∀ y, y ∈ R ∨ y ∈ T ++ [x] → y ∈ R' ∨ y ∈ T ++ f x := fun y hy => by
    rcases hy with hy | hy
    · exact .inl ((hR y).2 (.inr hy))
    · rcases List.mem_append.1 hy with hy | hy
      · exact .inr (List.mem_append_left _ hy)
      · exact .inl ((hR y).2 (.inl (List.mem_singleton.1 hy)))
  refine ⟨fun y hy => ?_, fun b hb => g b (h.src b hb), fun y hy p hp => ?_⟩
  · rcases hy with hy | hy
    · rcases (hR y).1 hy with rfl | hy
      · exact ⟨a, ha, hax⟩
      · exact h.up y (.inl hy)
    · rcases List.mem_append.1 hy with hy | hy
      · exact h.up y (.inr (List.mem_append_left _ hy))
      · exact ⟨a, ha, hax.snoc hy⟩
  · rcases (hR y).1 hy with rfl | hy
    · exact .inr (List.mem_append_right _ hp)
    · exact g p (h.clo y hy p hp)
theorem up_mem {f : Key → List Key} {R : List Key} (hc : ∀ x ∈ R, ∀ p ∈ f x, p ∈ R) {a x : Key} (h : Up f a x) : a ∈ R → x ∈ R := by
  induction h with
  | refl => exact id
  | step h1 _ ih => exact fun h0 => ih (hc _ h0 _ h1)
theorem RInv.done {f : Key → List Key} {E R : List Key} (h : RInv f E R []) (x : Key) : x ∈ R ↔ ∃ a ∈ E, Up f a x := by
  have n : ∀ y, y ∈ R ∨ y ∈ ([] : List Key) → y ∈ R := fun y hy => hy.elim (fun h => h) (fun h => by cases h)
  exact ⟨fun hx => h.up x (.inl hx), fun ⟨a, ha, hax⟩ => up_mem (fun x hx p hp => n p (h.clo x hx p hp)) hax (n a (h.src a ha))⟩
theorem nodup_le {α : Type} [DecidableEq α] : ∀ {R U : List α}, R.Nodup → (∀ x ∈ R, x ∈ U) → R.length ≤ U.length
  | [], _, _, _ => Nat.zero_le _
  | x :: R, U, h, hs => by
    obtain ⟨h1, h2⟩ := List.nodup_cons.1 h
    have hx := hs x List.mem_cons_self
    have := nodup_le (U := U.erase x) h2 fun y hy => (List.mem_erase_of_ne (by rintro rfl; exact h1 hy)).2 (hs y (List.mem_cons_of_mem _ hy))
    rw [List.length_erase_of_mem hx] at this
    have := List.length_pos_of_mem hx
    rw [List.length_cons]; omega
theorem up_in {f : Key → List Key} {E U : List Key} (hE : ∀ x ∈ E, x ∈ U) (hf : ∀ x, ∀ p ∈ f x, p ∈ U) {a x : Key} (ha : a ∈ E) (h : Up f a x) : x ∈ U := by
  have h0 := hE a ha
  clear ha
  induction h with
  | refl => exact h0
  | step h1 _ ih => exact ih (hf _ _ h1)
/-- The parents of a commit. -/
def adj (G : Gr) (h : Key) : List Key := (aget h G).getD []
/-- How many entries a map has. -/
def msz (w : World) (b : Nat) : Nat := match w.heap[b]? with | some (.map es _) => es.size | _ => 0
theorem MpH.msz {w : World} {b : Nat} {M : Kv} (h : MpH w b M) : msz w b = M.length := by
  obtain ⟨es, clock, h1, h2, _, h4⟩ := h.own
  unfold mapV at h4
  have h6 := congrArg List.length (DataW.map.inj h4)
  rw [length_sorted] at h6
  simp at h6
  simp only [Go.Proofs.Ythfkmfepeafgjaa.msz, h1]
  exact h6.symm
def slen : Value → Nat | .slice _ n _ => n | _ => 0
theorem HOwn.cut {w : World} {B n : Nat} {p : Option Addr} {c : Nat} {T : List Key} {x : Key} (h : HOwn w B (.slice p n c) (T ++ [x])) (hT : H32 T) : HOwn w B (.slice p T.length c) T := by
  obtain ⟨g, cap, R, e, hb, hg, hc, hm, hR⟩ := h.row (by simp)
  simp only [Value.slice.injEq] at e
  obtain ⟨rfl, _, rfl⟩ := e
  rw [List.length_append, List.length_singleton] at hc hR
  rw [fl_app, fl_one, List.append_assoc] at hg
  have hx : (us (nmb x)).length = 32 := by
    have := h.1
    rw [fl_app, fl_one, List.length_append, fl_length hT, List.length_append, List.length_singleton] at this
    omega
  exact hown_mk hT rfl hb hg (by omega) hm (by rw [List.length_append, hx, hR]; omega)
theorem HOwn.last {w : World} {B n : Nat} {p : Option Addr} {c : Nat} {T : List Key} {x : Key} (h : HOwn w B (.slice p n c) (T ++ [x])) (hT : H32 (T ++ [x])) : ∃ g, p = some ⟨g, 0, none⟩ ∧ n = T.length + 1 ∧ T.length < c ∧ w.rangeAt g (T.length * 32) (us (nmb x)) := by
  obtain ⟨g, cap, R, e, hb, hg, hc, hm, hR⟩ := h.row (by simp)
  simp only [Value.slice.injEq] at e
  obtain ⟨rfl, rfl, rfl⟩ := e
  rw [List.length_append, List.length_singleton] at hc
  have := row_range hT (i := T.length) (by simp) hg
  refine ⟨g, rfl, by simp, by omega, ?_⟩
  simpa using this
theorem own_ne_map {w : World} {B b : Nat} {v : Value} {E : List Key} {M : Kv} (h : HOwn w B v E) (hm : MpH w b M) : v.ownBlock ≠ some b := fun e => by
  obtain ⟨es, c, hb⟩ := hm.ismap
  have := own_isCells h b _ e hb
  cases this
theorem HOwn.step {w w' : World} {B : Nat} {v : Value} {E : List Key} {S : Nat → Prop} (h : HOwn w B v E) (ho : Only S w w') (hs : ∀ j, v.ownBlock = some j → ¬ S j) : HOwn w' B v E := by
  refine ⟨h.1, ?_⟩
  rcases h.2 with h1 | ⟨g, cap, cur, rfl, hb, hg, h3⟩
  · exact .inl h1
  · exact .inr ⟨g, cap, cur, rfl, hb, (ho.block g (Array.getElem?_eq_some_iff.1 hg).1 (hs g rfl)).trans hg, h3⟩
theorem SetH.step {w w' : World} {b : Nat} {R : List Key} {S : Nat → Prop} (h : SetH w b R) (ho : Only S w w') (hs : ¬ S b) : SetH w' b R := by
  obtain ⟨M, h1, h2, h3⟩ := h.ex
  exact ⟨M, h1.kept ho hs, h2, h3⟩
theorem run_append_nil_h {w : World} (base : Nat) (t ty e : TypeId) (i : TypeInfo) (size : Nat) (ht : Try.prog.underlying t = some (.slice e)) (hi : Try.prog.info? e = some i)
    (v : Value) (n : Nat) (xs : List Value) (hown : w.ownsRow base e size v n xs) : (Builtin.append_ #[t, t] ty #[v, .slice none 0 0]).run Try.prog w = .ok v w := by
  rcases hown.2 with ⟨rfl, rfl⟩ | ⟨g, cap, cur, rfl, _, _, hnc, _⟩
  · simp [Builtin.append_, run_underlying ht, sizeOf, typeInfo, hi, Builtin.lenOf, Builtin.firstCells]
  · simp [Builtin.append_, run_underlying ht, sizeOf, typeInfo, hi, Builtin.lenOf, Builtin.firstCells, hnc, storeCells]
/-- What append does with a slice of the call's own and one that is read. -/
theorem run_push_hash (w : World) (ty : TypeId) (B : Nat) (v u : Value) (l m : List Key) (hown : HOwn w B v l) (hu : HSeen w u m) (hm : H32 m) (hs : l.length + m.length ≤ 4398046511104) (hB : B ≤ w.heap.size) :
    ∃ v' w', (Builtin.append_ #[25, 25] ty #[v, u]).run Try.prog w = .ok v' w' ∧ HOwn w' B v' (l ++ m) ∧ Only (fun j => v.ownBlock = some j) w w' := by
  obtain ⟨i0, hi0, hz0, hz1, hz2⟩ := info_parts hzinfo
  have hf : l.length + m.length ≤ maxLen ∧ (l.length + m.length) * 32 ≤ 140737488355328 := by unfold maxLen; omega
  rcases hu with ⟨rfl, rfl⟩ | ⟨a, cap, rfl, hc, hcell⟩
  · obtain ⟨v', w', hr, h1, h2⟩ : ∃ v' w', (Builtin.append_ #[25, 25] ty #[v, .slice none 0 0]).run Try.prog w = .ok v' w' ∧ v' = v ∧ w' = w :=
      ⟨v, w, run_append_nil_h B _ ty 28 i0 32 Try.underlying25 hi0 v _ _ hown, rfl, rfl⟩
    subst h1 h2
    exact ⟨_, _, hr, by simpa using hown, Only.refl _ _⟩
  · obtain ⟨v', w', hr, h2, h3, h4, h5⟩ := run_append_own_at (P := Try.prog) (w := w) B 25 ty 28 i0 _ 32 32 Try.underlying25 hi0 hz0 hz1 hz2 rfl (by decide) v l.length (fl l) hown a m.length cap (fl m) (fl_length hm) hcell (fl_one' m) hf.1 hf.2 hB
    refine ⟨v', w', hr, ?_, (Only.refl _ w).grown h3 (fun k _ e => e)⟩
    unfold HOwn
    rw [List.length_append, fl_app]
    exact h2
section
variable {ops : Array Oper} {rest : List Oper} {a : Act} {Q : Exit → Act → World → Prop} {o : Oper} {w : World}
theorem push_hash (hgd : o.guard = none) (s x : Operand) (ho : o.op = .call { callee := .builtin .append, args := #[s, x], argTypes := #[25, 25] })
    (B : Nat) (v u : Value) (l m : List Key) (hs : a.eval s = v) (hown : HOwn w B v l) (hx : a.eval x = u) (hu : HSeen w u m) (h32m : H32 m) (hl : l.length + m.length ≤ 4398046511104) (hB : B ≤ w.heap.size)
    (h : ∀ v' w', HOwn w' B v' (l ++ m) → Only (fun j => v.ownBlock = some j) w w' → wpList Try.prog ops Q rest (a.put o.dst v') w') :
    wpList Try.prog ops Q (o :: rest) a w := by
  refine wpList_plain hgd fun K hK => ?_
  obtain ⟨v', w', hr, h1, h2⟩ := run_push_hash w o.type B v u l m hown hu h32m hl hB
  unfold Oper.wp execOp
  simp only [ho, resolve, invoke, builtin, Sem.run_bind, Sem.run_pure, Result.andThen_ok, List.map_toArray, List.map_cons, List.map_nil, hs, hx, hr]
  exact hK _ _ (h v' w' h1 h2)
end

theorem reach_fits {t r n m : Nat} (ht : t + 1 ≤ 4000 + r * 1000) (hr : r ≤ n) (hn : n ≤ 4000) (hm : m ≤ 1000) : t + m ≤ 4398046511104 ∧ t + m ≤ 4000 + (r + 1) * 1000 := by omega
theorem idx_fits {t r : Nat} (ht : t + 1 ≤ 4000 + r * 1000) (hr : r ≤ 4000) : wrap64 (t : Int) = (t : Int) ∧ (0 : Int) ≤ (t : Int) ∧ (t : Int) < (t : Int) + 1 ∧ (t : Int) + 1 > 0 := by
  unfold wrap64; omega
theorem meas_new {n r t m : Nat} (hr : r + 1 ≤ n) (hm : m ≤ 1000) : (n - (r + 1)) * 1001 + (t + m) < (n - r) * 1001 + (t + 1) := by omega
theorem lzs (p : Option Addr) (n c : Nat) : slen (.slice p n c) = n := rfl
theorem setH_made (w : World) : SetH (w.alloc (.map #[] 0)) w.heap.size [] := ⟨⟨[], MpH.made w, fun p h => by simp at h, rfl⟩⟩
theorem setH_nodup {w : World} {b : Nat} {R : List Key} (h : SetH w b R) : R.Nodup := by
  obtain ⟨M, h1, _, rfl⟩ := h.ex
  exact h1.asc.nodup
theorem setH_msz {w : World} {b : Nat} {R : List Key} (h : SetH w b R) : msz w b = R.length := by
  obtain ⟨M, h1, _, rfl⟩ := h.ex
  rw [h1.msz, List.length_map]
theorem asum_one {α : Type} : ∀ M : List (Key × α), asum (fun _ => 1) M = M.length
  | [] => rfl
  | a :: M => by
    have ih := asum_one M
    simp only [asum, List.map_cons, List.sum_cons, List.length_cons] at ih ⊢
    omega
/-- A hash more in a set. -/
theorem setH_store {w : World} {b : Nat} {R : List Key} (h : SetH w b R) (n : Key) (hn : n.length = 32) (hl : R.length ≤ 1000000) :
    ∃ w', (Instr.mapUpdate 79 (.map (some b)) (.agg (hv n)) (.agg #[])).run Try.prog w = .ok () w' ∧ (∃ R', SetH w' b R' ∧ (∀ y, y ∈ R' ↔ y = n ∨ y ∈ R) ∧ (n ∉ R → R'.length = R.length + 1)) ∧ Only (fun k => k = b) w w' := by
  obtain ⟨M, h1, hu, rfl⟩ := h.ex
  rw [List.length_map] at hl
  obtain ⟨w', hr, h2, h3⟩ := h1.store Try.underlying79 n hn (by unfold maxLen; omega) (.agg #[])
  have hm : ∀ y, y ∈ (aput n (Value.agg #[]) M).map (·.1) ↔ y = n ∨ y ∈ M.map (·.1) := fun y => by
    simp only [List.mem_map]
    constructor
    · rintro ⟨p, hp, rfl⟩
      rcases (ains_mem _ _ _).1 hp with rfl | hp
      · exact .inl rfl
      · exact .inr ⟨p, ((adel_mem _ _ _).1 hp).1, rfl⟩
    · rintro (rfl | ⟨p, hp, rfl⟩)
      · exact ⟨_, (ains_mem _ _ _).2 (.inl rfl), rfl⟩
      · by_cases e : p.1 = n
        · exact ⟨_, (ains_mem _ _ _).2 (.inl rfl), e.symm⟩
        · exact ⟨p, (ains_mem _ _ _).2 (.inr ((adel_mem _ _ _).2 ⟨hp, e⟩)), rfl⟩
  refine ⟨w', hr, ⟨_, ⟨⟨_, h2, fun p hp => ?_, rfl⟩⟩, hm, fun hno => ?_⟩, h3⟩
  · rcases (ains_mem _ _ _).1 hp with rfl | hp
    · rfl
    · exact hu p ((adel_mem _ _ _).1 hp).1
  · have hg : aget n M = none := by
      have := aget_isSome (n := n) (M := M)
      rw [decide_eq_false hno] at this
      cases hgg : aget n M with
      | none => rfl
      | some v => rw [hgg] at this; cases this
    have hs := asum_put (fun _ => 1) n (Value.agg #[]) h1.asc
    rw [hg] at hs
    simp only [asum_one, olen] at hs
    rw [List.length_map, List.length_map]; omega
theorem SetH.lt' {w : World} {b : Nat} {R : List Key} (h : SetH w b R) : b + 1 ≤ w.heap.size := by
  obtain ⟨M, h1, _⟩ := h.ex
  exact h1.lt
/-- What reach hands back. -/
def RePost (w : World) (f : Key → List Key) (E U : List Key) (e : Ending) (w' : World) : Prop :=
  ∃ b R, e = .returned (.map (some b)) ∧ SetH w' b R ∧ w.heap.size ≤ b ∧ (∀ x, x ∈ R ↔ ∃ a ∈ E, Up f a x) ∧ R.length ≤ U.length ∧ Below w.heap.size w w'
set_option maxRecDepth 20000 in
set_option maxHeartbeats 4000000 in
theorem reach_to (w : World) (bl : Nat) (X : Lx) (v : Value) (E U : List Key) (H : LAt w bl X) (hE : HSeen w v E) (h32 : H32 E) (hEl : E.length ≤ 4000) (hU : U.length ≤ 4000) (hEU : ∀ x ∈ E, x ∈ U) (hfU : ∀ x, ∀ p ∈ adj (gr X) x, p ∈ U) (hf : ∀ x ∈ X, x.2.2.length ≤ 1000) :
    Calls Try.prog 42 #[.map (some bl), v] w (RePost w (adj (gr X)) E U) := by
  have hu32 : ∀ a ∈ E, ∀ x, Up (adj (gr X)) a x → x.length = 32 := fun a ha x hx => by
    have hc : ∀ y ∈ E ++ U.filter (fun u => u.length = 32), ∀ p ∈ adj (gr X) y, p ∈ E ++ U.filter (fun u => u.length = 32) := fun y _ p hp => by
      refine List.mem_append_right _ (List.mem_filter.2 ⟨hfU y p hp, ?_⟩)
      unfold adj at hp
      rw [gr_get] at hp
      cases hg : aget y X with
      | none => rw [hg] at hp; cases hp
      | some z => rw [hg] at hp; exact decide_eq_true ((H.seen _ (aget_mem hg)).2 p hp)
    rcases List.mem_append.1 (up_mem hc hx (List.mem_append_left _ ha)) with h | h
    · exact h32 x h
    · exact of_decide_eq_true (List.mem_filter.1 h).2
  have hmm := @run_makeMap Try.prog
  have b1 : Below w.heap.size w (w.alloc (.map #[] 0)) := (Below.refl _ w).alloc (Nat.le_refl _) _
  have HCL := Lib.hid (hclone_any (w.alloc (.map #[] 0)) v E h32 (by omega) (hE.mild (mild_below b1)))
  have HS0 := Lib.hid (setH_made w)
  have hs0 : (w.alloc (.map #[] 0)).heap.size = w.heap.size + 1 := by simp
  have B1 := Lib.hid b1
  have HL := Lib.hid H
  have HU := Lib.hid hu32
  have HEU := Lib.hid hEU
  have HFU := Lib.hid hfU
  have HF := Lib.hid hf
  have HEl := Lib.hid hEl
  have HUl := Lib.hid hU
  have H3 := Lib.hid h32
  clear hu32 b1 H hE h32 hEl hU hEU hfU hf
  go_enter Try.func42, Try.ntmps42
  go_wp2_with fail
  refine HCL.out.mono ?_
  rintro e w1 ⟨v1, rfl, o1, b2⟩
  rw [hs0] at o1 b2
  have HS1 := Lib.hid (HS0.out.kb b2 (Nat.lt_succ_self _))
  have B2 := Lib.hid (B1.out.trans (b2.mono (Nat.le_succ _)))
  obtain ⟨p1, c1, rfl⟩ := (HSeen.own o1).shape
  have O1 := Lib.hid o1
  clear o1 b2
  go_wp2_with fail
  go_loopw [6] (fun s wr => ∃ T R p n c, s = .slice p n c ∧ n = T.length ∧ Hid (HOwn wr (w.heap.size + 1) (.slice p n c) T) ∧ Hid (SetH wr w.heap.size R) ∧ Hid (RInv (adj (gr X)) E R T) ∧ Hid (H32 T ∧ T.length ≤ 4000 + R.length * 1000 ∧ R.length ≤ U.length) ∧ Hid (Below w.heap.size w wr))
    (fun s wr => (U.length - msz wr w.heap.size) * 1001 + slen s)
  case atStart => exact ⟨E, [], p1, E.length, c1, rfl, rfl, O1, HS1, Lib.hid (RInv.start _ _), Lib.hid ⟨H3.out, by have := HEl.out; simp; omega, Nat.zero_le _⟩, B2⟩
  case round =>
    obtain ⟨T, R, p, n, c, rfl, hn, O, S, I, L, B⟩ := hrel
    clear HS0 HS1 B1 B2 O1
    cases hT : T.reverse with
    | nil =>
      obtain rfl : T = [] := by simpa using hT
      obtain rfl : n = 0 := hn
      clear hT
      go_wp2
      go_ret
      exact ⟨_, R, rfl, S.out, Nat.le_refl _, I.out.done, L.out.2.2, B.out⟩
    | cons x T' =>
      obtain ⟨T1, rfl⟩ : ∃ T1, T = T1 ++ [x] := ⟨T'.reverse, by rw [← List.reverse_reverse T, hT, List.reverse_cons]⟩
      clear hT T'
      obtain ⟨h32T, hTl, hRl⟩ := L.out
      have hx : x.length = 32 := h32T x (List.mem_append_right _ List.mem_cons_self)
      have h32T1 : H32 T1 := fun y hy => h32T y (List.mem_append_left _ hy)
      obtain ⟨g, rfl, hn', hcap, hrg⟩ := O.out.last h32T
      obtain ⟨m, hm⟩ : ∃ m, m = T1.length := ⟨_, rfl⟩
      rw [List.length_append, List.length_singleton, ← hm] at hTl
      rw [← hm] at hn' hcap hrg
      clear hn
      subst hn'
      obtain ⟨i1, i2, i3, i4⟩ := idx_fits hTl (Nat.le_trans hRl HUl.out)
      have hcm : (m : Int) ≤ (c : Int) := by omega
      have OC := Lib.hid (HOwn.cut O.out h32T1)
      have hld0 := hld_range hx hrg
      have st := hst_cells x hx wr
      have hks : (hv x).size = 32 := by rw [hv_size, hx]
      have b3 : Below wr.heap.size wr (wr.alloc (.cells (hv x) 28)) := (Below.refl _ _).alloc (Nat.le_refl _) _
      have hwr : w.heap.size + 1 ≤ wr.heap.size := by
        have hlt : w.heap.size < wr.heap.size := by
          obtain ⟨M, h1, _⟩ := S.out.ex
          exact h1.lt
        exact hlt
      have S3 := Lib.hid (S.out.kb b3 hwr)
      have HV3 := Lib.hid (heap_alloc_last wr (.cells (hv x) 28))
      have hld3 := hld_row (w := wr.alloc (.cells (hv x) 28)) hx HV3.out
      have HSH := Lib.hid (shas_to (wr.alloc (.cells (hv x) 28)) w.heap.size R x hx S3.out)
      have O3 := Lib.hid (OC.out.step (Only.of_below (S := fun _ => False) b3) (fun _ _ h => h))
      have B3 : Hid (Below w.heap.size w (wr.alloc (.cells (hv x) 28))) := Lib.hid (B.out.alloc B.out.size _)
      have hs3 : (wr.alloc (.cells (hv x) 28)).heap.size = wr.heap.size + 1 := by simp
      have MZ := Lib.hid (setH_msz S.out)
      have HM := Lib.hid hm
      have HTL := Lib.hid hTl
      have HRL := Lib.hid hRl
      have HX := Lib.hid hx
      have H32T1 := Lib.hid h32T1
      have HWR := Lib.hid hwr
      clear hrg b3 hm hTl hRl h32T h32T1 O OC S L
      generalize hw3 : wr.alloc (.cells (hv x) 28) = w3 at *
      by_cases hxR : x ∈ R
      · have HXR := Lib.hid hxR
        rw [decide_eq_true hxR] at HSH
        clear hxR
        go_wp2_with fail
        refine HSH.out.mono ?_
        rintro e w4 ⟨rfl, b4⟩
        rw [hs3] at b4
        have S4 := Lib.hid (S3.out.kb b4 (by omega))
        have O4 := Lib.hid (O3.out.step (Only.of_below (S := fun _ => False) (by rw [hs3]; exact b4)) (fun _ _ h => h))
        have B4 : Hid (Below w.heap.size w w4) := Lib.hid (B3.out.trans (b4.mono (by omega)))
        clear b4
        go_wp2_with fail
        rw [MZ.out, setH_msz S4.out, lzs, lzs]
        exact ⟨⟨T1, R, _, m, c, rfl, HM.out, by rw [HM.out]; exact O4, S4, Lib.hid (RInv.old I.out HXR.out), Lib.hid ⟨H32T1.out, by rw [← HM.out]; have := HTL.out; omega, HRL.out⟩, B4⟩, by omega⟩
      · have HXR := Lib.hid hxR
        rw [decide_eq_false hxR] at HSH
        clear hxR
        go_wp2_with fail
        refine HSH.out.mono ?_
        rintro e w4 ⟨rfl, b4⟩
        rw [hs3] at b4
        have S4 := Lib.hid (S3.out.kb b4 (by omega))
        have O4 := Lib.hid (O3.out.step (Only.of_below (S := fun _ => False) (by rw [hs3]; exact b4)) (fun _ _ h => h))
        have B4 : Hid (Below w.heap.size w w4) := Lib.hid (B3.out.trans (b4.mono (by omega)))
        have HV4 := Lib.hid ((b4.block wr.heap.size (by omega)).trans HV3.out)
        have hld4 := hld_row (w := w4) HX.out HV4.out
        obtain ⟨w5, hmu, ⟨R', s5, hR', hlen⟩, o5⟩ := setH_store S4.out x HX.out (by have := HRL.out; have := HUl.out; omega)
        have hne : wr.heap.size ≠ w.heap.size := by have := HWR.out; omega
        have HV5 := Lib.hid ((o5.block wr.heap.size (Array.getElem?_eq_some_iff.1 HV4.out).1 hne).trans HV4.out)
        have hld5 := hld_row (w := w5) HX.out HV5.out
        have B5 : Hid (Below w.heap.size w w5) := Lib.hid (B4.out.trans (Only.below (S := fun k => k = w.heap.size) o5 B4.out.size (fun k hk => by omega)))
        have O5 := Lib.hid (O4.out.step o5 (fun j hj e => by have := (O4.out.lt j hj).1; omega))
        have L5 := HL.out.kb B5.out
        have hlk := L5.mp.look Try.underlying81 (lzero _) x HX.out
        have hsn : HSeen w5 ((aget x (kvs X)).getD (.slice none 0 0)) (adj (gr X) x) ∧ H32 (adj (gr X) x) ∧ (adj (gr X) x).length ≤ 1000 := by
          unfold adj
          rw [kvs_get, gr_get]
          cases hg : aget x X with
          | none => exact ⟨.inl ⟨rfl, rfl⟩, H32.nil, Nat.zero_le _⟩
          | some y => exact ⟨(L5.seen _ (aget_mem hg)).1, (L5.seen _ (aget_mem hg)).2, HF.out _ (aget_mem hg)⟩
        have S5 := Lib.hid s5
        have HR5 := Lib.hid hR'
        have HLN := Lib.hid (hlen HXR.out)
        have HSN := Lib.hid hsn
        have HFL := Lib.hid hsn.2.2
        have hrf := reach_fits HTL.out HRL.out HUl.out hsn.2.2
        have HRF := Lib.hid hrf
        have hsz5 := B5.out.size
        have hwb : w.heap.size + 1 ≤ w5.heap.size := s5.lt'
        have HPL : Hid (T1.length + (adj (gr X) x).length ≤ 4398046511104) := Lib.hid (by rw [← HM.out]; exact hrf.1)
        generalize hzv : (aget x (kvs X)).getD (.slice none 0 0) = zv at hlk HSN
        generalize hF : adj (gr X) x = F at *
        have HOM := Lib.hid HM.out
        clear b4 o5 L5 s5 hR' hlen hsn hrf hsz5 hzv
        have hO5' : HOwn w5 (w.heap.size + 1) (.slice (some ⟨g, 0, none⟩) m c) T1 := by rw [HOM.out]; exact O5.out
        have HO5 := Lib.hid hO5'
        clear hO5' O5
        go_wp2_with (at_builtin; refine push_hash rfl _ _ rfl (w.heap.size + 1) _ zv T1 F rfl HO5.out rfl HSN.out.1 HSN.out.2.1 HPL.out hwb ?_; intro v6 w6 o6 n6; have O6 := Lib.hid o6; obtain ⟨p6, c6, rfl⟩ := (HSeen.own o6).shape; have N6 := Lib.hid n6; clear o6 n6)
        rw [MZ.out]
        have hb6 : ∀ j, (Value.slice (some ⟨g, 0, none⟩) m c).ownBlock = some j → w.heap.size + 1 ≤ j := fun j hj => (HO5.out.lt j hj).1
        have S6 := S5.out.step N6.out (fun e => by have := hb6 _ e; omega)
        rw [setH_msz S6, lzs, lzs, HLN.out]
        have hR6 : R'.length ≤ U.length := nodup_le (setH_nodup S6) fun y hy => by
          obtain ⟨a, ha, hay⟩ := (RInv.new I.out HR5.out).up y (.inl hy)
          exact up_in HEU.out HFU.out ha hay
        rw [HLN.out] at hR6
        refine ⟨⟨T1 ++ F, R', p6, _, c6, rfl, (List.length_append ..).symm, by rw [← List.length_append]; exact O6, Lib.hid S6, Lib.hid (by rw [← hF]; exact RInv.new I.out HR5.out), Lib.hid ⟨H32T1.out.app HSN.out.2.1, ?_, by rw [HLN.out]; exact hR6⟩, Lib.hid (B5.out.trans (Only.below N6.out B5.out.size (fun k hk => by have := hb6 k hk; omega)))⟩, ?_⟩
        · rw [List.length_append, HLN.out, ← HM.out]
          exact HRF.out.2
        · rw [← HM.out]
          exact meas_new hR6 HFL.out
end Go.Proofs.Ythfkmfepeafgjaa
