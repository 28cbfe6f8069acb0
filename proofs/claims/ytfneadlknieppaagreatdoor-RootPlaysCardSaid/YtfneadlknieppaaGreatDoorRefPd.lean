/- How the reference's disk lies in memory; Now. Conditions: no more than 900000 works. · Small calls of the reference's disk: name, works, pend. Conditions: no more than 900000 works. · pend of the reference's disk: one more work. Conditions: no more than 900000 works. -/
import Derived.Test.YtfneadlknieppaaGreatDoorRefP
import Derived.Test.YtfneadlknieppaaGreatDoorDskB
import Derived.Test.YtfneadlknieppaaGreatDoorLogC
namespace Go.Proofs.YtfneadlknieppaaGreatDoor
open Go.RowKit
open Go.Maps

/-- A work in memory: what it says, and the slice that holds its bytes. -/
abbrev Qe := Wk × Value
def qrow (q : Qe) : List Value := q.1.ref q.2
def qrows : List Qe → List Value
  | [] => []
  | e :: r => qrow e ++ qrows r
theorem qrows_length : ∀ E : List Qe, (qrows E).length = E.length * 5
  | [] => rfl
  | e :: r => by simp [qrows, qrow, Wk.ref, qrows_length r]; omega
theorem qrows_app : ∀ E F : List Qe, qrows (E ++ F) = qrows E ++ qrows F
  | [], _ => rfl
  | e :: r, F => by simp [qrows, qrows_app r F]
theorem qrows_at : ∀ (E : List Qe) (i c : Nat) (hi : i < E.length), c < 5 → (qrows E)[i * 5 + c]? = (qrow E[i])[c]?
  | e :: r, 0, c, _, hc => by
    rw [qrows, List.getElem?_append_left (by simp [qrow, Wk.ref]; omega)]
    simp
  | e :: r, i + 1, c, hi, hc => by
    rw [qrows, List.getElem?_append_right (by simp [qrow, Wk.ref]; omega), show (i + 1) * 5 + c - (qrow e).length = i * 5 + c from by simp [qrow, Wk.ref]; omega]
    rw [qrows_at r i c (by simpa using hi) hc]
    simp
structure QAt (w : World) (A : Nat → Prop) (v : Value) (Q : List Qe) : Prop where
  row : (v = .slice none 0 0 ∧ Q = []) ∨ ∃ g o cap, v = .slice (some ⟨g, o, none⟩) Q.length cap ∧ Q.length ≤ cap ∧ (Q ≠ [] → A g) ∧ ∀ j u, (qrows Q)[j]? = some u → w.cell? ⟨g, o + j, none⟩ = some u
  bod : ∀ e ∈ Q, BAt w A e.2 e.1.bs
section
variable {w w' : World} {A T : Nat → Prop} {v : Value} {Q : List Qe}
theorem QAt.kept (h : QAt w A v Q) (ho : Only T w w') (hT : ∀ k, A k → ¬ T k) : QAt w' A v Q := by
  refine ⟨?_, fun e he => (h.bod e he).kept ho hT⟩
  rcases h.row with h1 | ⟨g, o, cap, h1, hc, hg, hu⟩
  · exact .inl h1
  · refine .inr ⟨g, o, cap, h1, hc, hg, fun j u hj => ?_⟩
    have h1 := hu j u hj
    have h2 := World.block_lt_of_cell? w _ h1
    rw [World.cell?_of_block (w := w) (ho.block _ h2 (hT _ (hg (by rintro rfl; simp [qrows] at hj))))]
    exact h1
theorem QAt.kb (h : QAt w A v Q) (hb : Below w.heap.size w w') : QAt w' A v Q := QAt.kept (T := fun _ => False) h (Only.of_below hb) (fun _ _ h => h)
theorem QAt.mono {A' : Nat → Prop} (h : QAt w A v Q) (hA : ∀ k, A k → A' k) : QAt w A' v Q := by
  refine ⟨?_, fun e he => (h.bod e he).mono hA⟩
  rcases h.row with h1 | ⟨g, o, cap, h1, hc, hg, hu⟩
  · exact .inl h1
  · exact .inr ⟨g, o, cap, h1, hc, fun hn => hA g (hg hn), hu⟩
theorem QAt.tight (h : QAt w A v Q) : QAt w (fun k => A k ∧ k < w.heap.size) v Q := by
  refine ⟨?_, fun e he => (h.bod e he).tight⟩
  rcases h.row with h1 | ⟨g, o, cap, h1, hc, hg, hu⟩
  · exact .inl h1
  · refine .inr ⟨g, o, cap, h1, hc, fun hn => ⟨hg hn, ?_⟩, hu⟩
    obtain ⟨x, r, rfl⟩ := List.exists_cons_of_ne_nil hn
    exact World.block_lt_of_cell? w (⟨g, o + 0, none⟩ : Addr) (hu 0 (.int .i64 ((x.1.kind : Int) + 1)) rfl)
theorem QAt.nil (w : World) (A : Nat → Prop) : QAt w A (.slice none 0 0) [] := ⟨.inl ⟨rfl, rfl⟩, fun e he => by cases he⟩
theorem QAt.slice (h : QAt w A v Q) : ∃ p cap, v = .slice p Q.length cap ∧ (0 < Q.length → ∃ g o, p = some ⟨g, o, none⟩) := by
  rcases h.row with ⟨h1, rfl⟩ | ⟨g, o, cap, h1, _⟩
  · exact ⟨none, 0, h1, fun h => absurd h (Nat.lt_irrefl _)⟩
  · exact ⟨_, _, h1, fun _ => ⟨g, o, rfl⟩⟩
theorem QAt.at {g o n cap : Nat} (h : QAt w A (.slice (some ⟨g, o, none⟩) n cap) Q) {i c : Nat} (hi : i < Q.length) (hc : c < 5) {u : Value} (hu : (qrow Q[i])[c]? = some u) : w.cell? ⟨g, o + i * 5 + c, none⟩ = some u := by
  rcases h.row with ⟨h1, _⟩ | ⟨g', o', cap', h1, _, _, h2⟩
  · cases h1
  · cases h1
    rw [Nat.add_assoc]
    exact h2 _ _ (by rw [qrows_at Q i c hi hc]; exact hu)
theorem QAt.own {B : Nat} (h : w.ownsRow B 78 5 v Q.length (qrows Q)) (hA : ∀ k, B ≤ k → A k) (hb : ∀ e ∈ Q, BAt w A e.2 e.1.bs) : QAt w A v Q := by
  refine ⟨?_, hb⟩
  rcases h.2 with ⟨h1, h2⟩ | ⟨g, cap', cur, h1, _, _, h3, _⟩
  · exact .inl ⟨h1, List.length_eq_zero_iff.1 h2⟩
  · subst h1
    refine .inr ⟨g, 0, cap', rfl, h3, fun _ => hA _ (h.lt g rfl).1, fun j u hj => ?_⟩
    have := h.cells (g := g) rfl j u hj
    rwa [Addr.add_lit] at this
end
/-- The reference's disk. -/
structure RD (w : World) (B b : Nat) (A : Nat → Prop) (s : St) (f : Int) (vk vp : Value) (E : List Fe) (Q : List Qe) : Prop where
  obj : w.heap[b]? = some (.cells #[.int .i64 s.room, vk, vp, .int .i64 f, .bool s.dead, .int .i64 s.works] 60 (0, 0))
  fuse : f = s.fuse ∨ (f < 0 ∧ s.fuse < 0)
  kept : FAt w A vk E
  fbk : fb E = s.kept
  pend : QAt w A vp Q
  fsq : Q.map (·.1) = s.pend
  nb : ¬ A b
  bb : B ≤ b
  ge : ∀ k, A k → B ≤ k
  lt : ∀ k, A k → k < w.heap.size
def RS (w : World) (B b : Nat) (A : Nat → Prop) (s : St) : Prop := ∃ f vk vp E Q, RD w B b A s f vk vp E Q
def RPost (w : World) (B b : Nat) (A : Nat → Prop) (s : St) (w' : World) : Prop := ∃ A', RS w' B b A' s ∧ Only (fun k => k = b) w w' ∧ ∀ k, A' k → A k ∨ w.heap.size ≤ k
/-- What a disk's past tells of it. -/
structure Good (s : St) : Prop where
  hist : ∃ P, Hist s.works s.kept s.pend P
  pl : s.pend.length ≤ s.works
  room0 : 0 ≤ s.room ∧ s.room ≤ 16777216
theorem DS.good {w : World} {B b : Nat} {S : Nat → Prop} {s : St} (h : DS w B b S s) : Good s := by
  obtain ⟨c, L, P, h⟩ := h
  exact ⟨⟨P, h.hist⟩, h.pl, h.room0⟩
theorem Good.at {s : St} (h : Good s) {i : Nat} (hi : i < s.pend.length) : SmF s.works (run s.kept (s.pend.take i)) ∧ Fits (run s.kept (s.pend.take i)) s.pend[i] ∧ SmF s.works (turn (run s.kept (s.pend.take i)) s.pend[i]) := by
  obtain ⟨P, hP⟩ := h.hist
  have h1 := Hist.at i hP hi (by rw [hP.length]; exact hi)
  refine ⟨h1.1, h1.2.1, ?_⟩
  rw [← run_take_succ _ _ hi]
  exact (hP.take (i + 1)).last
theorem Good.last {s : St} (h : Good s) : SmF s.works s.files := by
  obtain ⟨P, hP⟩ := h.hist
  exact hP.last
theorem Good.bs {s : St} (h : Good s) {i : Nat} (hi : i < s.pend.length) (h0 : (s.pend[i]).kind = 0) : (s.pend[i]).bs.length ≤ 16777216 := by
  have h1 := (h.at hi).2.2.tot
  have ht : turn (run s.kept (s.pend.take i)) s.pend[i] = aput s.pend[i].name (fbytes s.pend[i].name (run s.kept (s.pend.take i)) ++ s.pend[i].bs) (run s.kept (s.pend.take i)) := by unfold turn; rw [if_pos h0]
  rw [ht] at h1
  have h2 := fbytes_le s.pend[i].name (aput s.pend[i].name (fbytes s.pend[i].name (run s.kept (s.pend.take i)) ++ s.pend[i].bs) (run s.kept (s.pend.take i)))
  rw [fbytes_put_same, List.length_append] at h2
  omega
section
variable {w w' : World} {B b : Nat} {A T : Nat → Prop} {s : St} {f : Int} {vk vp : Value} {E : List Fe} {Q : List Qe}
theorem RD.blt (h : RD w B b A s f vk vp E Q) : b < w.heap.size := (Array.getElem?_eq_some_iff.1 h.obj).1
theorem RD.c0 (h : RD w B b A s f vk vp E Q) : w.cell? ⟨b, 0, none⟩ = some (.int .i64 s.room) := by rw [cell_of_row w _ 0 _ _ _ h.obj]; rfl
theorem RD.c1 (h : RD w B b A s f vk vp E Q) : w.cell? ⟨b, 1, none⟩ = some vk := by rw [cell_of_row w _ 1 _ _ _ h.obj]; rfl
theorem RD.c2 (h : RD w B b A s f vk vp E Q) : w.cell? ⟨b, 2, none⟩ = some vp := by rw [cell_of_row w _ 2 _ _ _ h.obj]; rfl
theorem RD.c3 (h : RD w B b A s f vk vp E Q) : w.cell? ⟨b, 3, none⟩ = some (.int .i64 f) := by rw [cell_of_row w _ 3 _ _ _ h.obj]; rfl
theorem RD.c4 (h : RD w B b A s f vk vp E Q) : w.cell? ⟨b, 4, none⟩ = some (.bool s.dead) := by rw [cell_of_row w _ 4 _ _ _ h.obj]; rfl
theorem RD.c5 (h : RD w B b A s f vk vp E Q) : w.cell? ⟨b, 5, none⟩ = some (.int .i64 s.works) := by rw [cell_of_row w _ 5 _ _ _ h.obj]; rfl
theorem RD.kept' (h : RD w B b A s f vk vp E Q) (ho : Only T w w') (hb : ¬ T b) (hT : ∀ k, A k → ¬ T k) : RD w' B b A s f vk vp E Q :=
  { h with
    obj := (ho.block b h.blt hb).trans h.obj
    kept := h.kept.kept ho hT
    pend := h.pend.kept ho hT
    lt := fun k hk => Nat.lt_of_lt_of_le (h.lt k hk) ho.size }
theorem RD.kb (h : RD w B b A s f vk vp E Q) (hb : Below w.heap.size w w') : RD w' B b A s f vk vp E Q := h.kept' (T := fun _ => False) (Only.of_below hb) (fun h => h) (fun _ _ h => h)
theorem RS.kept (h : RS w B b A s) (ho : Only T w w') (hb : ¬ T b) (hT : ∀ k, A k → ¬ T k) : RS w' B b A s := by
  obtain ⟨f, vk, vp, E, Q, h⟩ := h
  exact ⟨f, vk, vp, E, Q, h.kept' ho hb hT⟩
theorem RS.kb (h : RS w B b A s) (hb : Below w.heap.size w w') : RS w' B b A s := h.kept (T := fun _ => False) (Only.of_below hb) (fun h => h) (fun _ _ h => h)
theorem RPost.same (h : RS w B b A s) (hb : Below w.heap.size w w') : RPost w B b A s w' := ⟨A, h.kb hb, Only.of_below hb, fun _ h => .inl h⟩
end
/-- What Now tells. -/
def NowPost (w : World) (A : Nat → Prop) (F : Fil) (e : Ending) (w' : World) : Prop := TPost w A F e w'
set_option maxRecDepth 20000 in
set_option maxHeartbeats 2000000 in
theorem now_to (w : World) (B b : Nat) (A : Nat → Prop) (s : St) (h : RS w B b A s) (hg : Good s) (hw : s.works ≤ 900000) :
    Calls Tryz.prog 42 #[.pointer (some ⟨b,0,none⟩)] w (TPost w A s.files) := by
  obtain ⟨f, vk, vp, E, Q, h⟩ := h
  obtain ⟨p0, cap0, rfl, _⟩ := h.kept.slice
  obtain ⟨p, cap, rfl, hp⟩ := h.pend.slice
  have hql : Q.length = s.pend.length := by rw [← h.fsq, List.length_map]
  obtain ⟨n, hn⟩ : ∃ n, n = Q.length := ⟨_, rfl⟩
  rw [← hn] at h hp
  have HN := Lib.hid hn
  have HNP : Hid (n = s.pend.length) := Lib.hid (hn.trans hql)
  have HP := Lib.hid hp
  have H := Lib.hid h
  have HG := Lib.hid hg
  have HW := Lib.hid hw
  have c1 := h.c1
  have hn6 : n ≤ 900000 := by have := hg.pl; omega
  clear h hg hp hn hql hw
  go_enter Tryz.func42, Tryz.ntmps42
  go_wp2_with fail
  go_loopw [3, 4] (fun vl i wr => ∃ (k : Nat) (q : Option Addr) (m c : Nat) (D : List Fe), k ≤ n ∧ i = .int .i64 k ∧ vl = .slice q m c ∧ Hid (FAt wr (fun x => A x ∨ w.heap.size ≤ x) (.slice q m c) D ∧ fb D = run s.kept (s.pend.take k) ∧ Below w.heap.size w wr)) (fun _ i _ => n - (intOf i).toNat)
  case atStart => exact ⟨0, p0, E.length, cap0, E, Nat.zero_le _, rfl, rfl, Lib.hid ⟨H.out.kept.mono (fun k hk => .inl hk), H.out.fbk, Below.refl _ _⟩⟩
  case round =>
    obtain ⟨k, q, m, c, D, hk, rfl, rfl, HS⟩ := hrel
    have HR := Lib.hid (H.out.kb HS.out.2.2)
    have r2 := HR.out.c2
    by_cases hlt : k < n
    · have hkQ : k < Q.length := by rw [← HN.out]; exact hlt
      have hkP : k < s.pend.length := by rw [← HNP.out]; exact hlt
      have hqe : Q[k].1 = s.pend[k] := by
        have h1 : (Q.map (·.1))[k]'(by rw [List.length_map]; exact hkQ) = s.pend[k] := by simp only [H.out.fsq]
        simpa using h1
      have hgo := HG.out.at hkP
      have hbs := HG.out.bs hkP
      have hst := run_take_succ s.kept s.pend hkP
      rw [← hqe] at hgo hbs hst
      obtain ⟨g, o, rfl⟩ := HP.out (by omega)
      have e0 := QAt.at HR.out.pend hkQ (c := 0) (by omega) rfl
      have e1 := QAt.at HR.out.pend hkQ (c := 1) (by omega) rfl
      have e2 := QAt.at HR.out.pend hkQ (c := 2) (by omega) rfl
      have e3 := QAt.at HR.out.pend hkQ (c := 3) (by omega) rfl
      have e4 := QAt.at HR.out.pend hkQ (c := 4) (by omega) rfl
      have hbd := HR.out.pend.bod Q[k] (List.getElem_mem hkQ)
      generalize Q[k] = x at *
      obtain ⟨⟨kind, nm, to, bs, z⟩, u⟩ := x
      obtain ⟨pu, cu, hv⟩ := len_val hbd.seen
      have hv' : u = .slice pu bs.length cu := hv
      subst hv'
      rw [Nat.add_zero] at e0
      have HGO := Lib.hid hgo
      have HBS := Lib.hid hbs
      have HST := Lib.hid hst
      have HBD := Lib.hid hbd
      clear hqe hgo hbs hst hbd
      go_wp2_with fail
      have hfd := HS.out.2.1
      refine (rturn_to wr (fun x => A x ∨ w.heap.size ≤ x) _ D ⟨kind, nm, to, bs, z⟩ (.slice pu bs.length cu) HS.out.1 (by have := HGO.out.1.many; rw [← hfd, fb_length] at this; have := HW.out; omega) (HBD.out.mono (fun k hk => .inl hk)) (by rw [hfd]; exact HGO.out.2.1) (by rw [hfd]; exact HGO.out.1.tot) HBS.out).mono ?_
      rintro e w9 ⟨v9, E9, rfl, h9, f9, b9⟩
      obtain ⟨p9, c9, rfl, _⟩ := h9.slice
      have HS9 : Hid (FAt w9 (fun x => A x ∨ w.heap.size ≤ x) (.slice p9 E9.length c9) E9 ∧ fb E9 = run s.kept (s.pend.take (k + 1)) ∧ Below w.heap.size w w9) := Lib.hid ⟨h9.mono (fun x hx => by
          rcases hx with hx | hx
          · exact hx
          · exact .inr (Nat.le_trans HS.out.2.2.size hx)), by rw [f9, hfd, HST.out], HS.out.2.2.trans (b9.mono HS.out.2.2.size)⟩
      clear hfd h9 f9 b9
      go_wp2_with fail
      exact ⟨⟨k + 1, p9, E9.length, c9, E9, by omega, by simp, rfl, HS9⟩, by simp [intOf]; omega⟩
    · have HKN : Hid (k = n) := Lib.hid (by omega)
      go_wp2_with fail
      go_ret
      refine ⟨_, D, rfl, HS.out.1, ?_, HS.out.2.2⟩
      rw [HS.out.2.1, HKN.out, HNP.out, List.take_length]
      rfl
end Go.Proofs.YtfneadlknieppaaGreatDoor
namespace Go.Proofs.YtfneadlknieppaaGreatDoor
open Go.RowKit
open Go.Maps

theorem rname_to (w : World) (n : Key) (hn : n.length ≤ 4611686018427387904) : Calls Tryz.prog 40 #[stv n] w fun e w' => e = .returned (.bool (okName n)) ∧ w = w' := by
  unfold okName
  by_cases h1 : 1 ≤ n.length
  · have h1' : (1 : Int) ≤ (n.length : Int) := by omega
    by_cases h2 : n.length ≤ 20
    · have h2' : (n.length : Int) ≤ 20 := by omega
      have HB : Hid ((decide (1 ≤ n.length) && decide (n.length ≤ 20)) = true) := Lib.hid (by simp [h1, h2])
      clear h1 h2
      go_enter Tryz.func40, Tryz.ntmps40
      go_wp2
      go_ret
      exact ⟨by rw [HB.out]; rfl, rfl⟩
    · have h2' : ¬ (n.length : Int) ≤ 20 := by omega
      have HB : Hid ((decide (1 ≤ n.length) && decide (n.length ≤ 20)) = false) := Lib.hid (by simp [h2])
      clear h1 h2
      go_enter Tryz.func40, Tryz.ntmps40
      go_wp2
      go_ret
      exact ⟨by rw [HB.out]; rfl, rfl⟩
  · have h1' : ¬ (1 : Int) ≤ (n.length : Int) := by omega
    have HB : Hid ((decide (1 ≤ n.length) && decide (n.length ≤ 20)) = false) := Lib.hid (by simp [h1])
    clear h1
    go_enter Tryz.func40, Tryz.ntmps40
    go_wp2
    go_ret
    exact ⟨by rw [HB.out]; rfl, rfl⟩
section
variable {w w' : World} {B b : Nat} {A T : Nat → Prop} {s : St} {f : Int} {vk vp : Value} {E : List Fe} {Q : List Qe}
theorem RD.fz (h : RD w B b A s f vk vp E Q) (i : Nat) : w.frozen? ⟨b, i, none⟩ = false := by
  have h' := h.obj
  simp [World.frozen?, h']
theorem RD.scal (h : RD w B b A s f vk vp E Q) (ho : Only (fun k => k = b) w w') (s' : St) (f' : Int)
    (hobj : w'.heap[b]? = some (.cells #[.int .i64 s'.room, vk, vp, .int .i64 f', .bool s'.dead, .int .i64 s'.works] 60 (0, 0))) (hk : s'.kept = s.kept) (hp : s'.pend = s.pend) (hf : f' = s'.fuse ∨ (f' < 0 ∧ s'.fuse < 0)) : RD w' B b A s' f' vk vp E Q where
  obj := hobj
  fuse := hf
  kept := h.kept.kept ho (fun k hk e => h.nb (e ▸ hk))
  fbk := by rw [hk]; exact h.fbk
  pend := h.pend.kept ho (fun k hk e => h.nb (e ▸ hk))
  fsq := by rw [hp]; exact h.fsq
  nb := h.nb
  bb := h.bb
  ge := h.ge
  lt := fun k hk => Nat.lt_of_lt_of_le (h.lt k hk) ho.size
theorem RD.mono {A' : Nat → Prop} (h : RD w B b A s f vk vp E Q) (hA : ∀ k, A k → A' k) (hb : ¬ A' b) (hg : ∀ k, A' k → B ≤ k) (hl : ∀ k, A' k → k < w.heap.size) : RD w B b A' s f vk vp E Q :=
  { h with kept := h.kept.mono hA, pend := h.pend.mono hA, nb := hb, ge := hg, lt := hl }
end
/-- One more work is counted. -/
def St.rpass (s : St) : St := if s.fuse = 0 then { s with dead := true } else { s with fuse := if 0 < s.fuse then s.fuse - 1 else s.fuse, works := s.works + 1 }
theorem rpass_kp (s : St) : s.rpass.kept = s.kept ∧ s.rpass.pend = s.pend ∧ s.rpass.room = s.room := by unfold St.rpass; split <;> exact ⟨rfl, rfl, rfl⟩
def fpass (f : Int) : Int := if 0 < f then f - 1 else f
theorem fpass_fuse {s : St} {f : Int} (h : f = s.fuse ∨ (f < 0 ∧ s.fuse < 0)) : fpass f = s.rpass.fuse ∨ (fpass f < 0 ∧ s.rpass.fuse < 0) := by
  unfold fpass St.rpass
  rcases h with rfl | ⟨h1, h2⟩
  · by_cases h0 : s.fuse = 0
    · rw [if_pos h0, h0]; exact .inl rfl
    · rw [if_neg h0]; exact .inl rfl
  · rw [if_neg (by omega), if_neg (by omega)]
    refine .inr ⟨h1, ?_⟩
    show (if 0 < s.fuse then s.fuse - 1 else s.fuse) < 0
    rw [if_neg (by omega)]; exact h2
theorem rworks_to (w : World) (B b : Nat) (A : Nat → Prop) (s : St) (f : Int) (vk vp : Value) (E : List Fe) (Q : List Qe) (h : RD w B b A s f vk vp E Q) (hw : s.works ≤ 900000) (hf : f < 9223372036854775808) :
    Calls Tryz.prog 72 #[.pointer (some ⟨b,0,none⟩)] w fun e w' => e = .returned (.bool (!decide (s.fuse = 0))) ∧ RD w' B b A s.rpass (fpass f) vk vp E Q ∧ Only (fun k => k = b) w w' := by
  have c3 := h.c3
  have c4 := h.c4
  have c5 := h.c5
  have f3 := h.fz 3
  have f4 := h.fz 4
  have f5 := h.fz 5
  have H := Lib.hid h
  have HK := Lib.hid (rpass_kp s)
  have HS : Hid (∀ w', Only (fun k => k = b) w w' → w'.heap[b]? = some (.cells #[.int .i64 s.rpass.room, vk, vp,   .int .i64 (fpass f), .bool s.rpass.dead, .int .i64 s.rpass.works] 60 (0, 0)) → RD w' B b A s.rpass (fpass f) vk vp E Q) := Lib.hid (fun w' ho hobj => h.scal ho s.rpass (fpass f) hobj HK.out.1 HK.out.2.1 (fpass_fuse h.fuse))
  have h00 : f = 0 ↔ s.fuse = 0 := by rcases h.fuse with e | ⟨e1, e2⟩ <;> omega
  have hdd : (!decide (s.fuse = 0)) = (!decide (f = 0)) := by simp [h00]
  rw [hdd]
  have H00 := Lib.hid h00
  clear h hdd h00
  by_cases h0 : f = 0
  · have hr : s.rpass = { s with dead := true } := by unfold St.rpass; rw [if_pos (H00.out.1 h0)]
    have HR := Lib.hid hr
    have HB : Hid ((!decide (f = 0)) = false) := Lib.hid (by simp [h0])
    have HF : Hid (fpass f = f) := Lib.hid (by unfold fpass; rw [if_neg (by omega)])
    rw [h0] at c3
    have HF0 := Lib.hid h0
    clear hr h0
    go_enter Tryz.func72, Tryz.ntmps72
    go_wp2
    go_ret
    refine ⟨by first | rfl | (rw [HB.out]; rfl), HS.out _ ((Only.refl _ _).one (S := fun k => k = b) rfl _) ?_, (Only.refl _ _).one (S := fun k => k = b) rfl _⟩
    rw [HR.out, HF.out]
    exact Lib.heap_setCell_same (i := 4) H.out.obj _
  · have hr : s.rpass = { s with fuse := if 0 < s.fuse then s.fuse - 1 else s.fuse, works := s.works + 1 } := by unfold St.rpass; rw [if_neg (fun e => h0 (H00.out.2 e))]
    have HR := Lib.hid hr
    have HB : Hid ((!decide (f = 0)) = true) := Lib.hid (by simp [h0])
    have HW := Lib.hid hw
    obtain ⟨z, hz⟩ : ∃ z : Nat, z = s.works := ⟨_, rfl⟩
    rw [← hz] at c5 hw
    have HZ := Lib.hid hz
    clear hr hz
    by_cases h1 : 0 < f
    · have HF : Hid (fpass f = f - 1) := Lib.hid (by unfold fpass; rw [if_pos h1])
      go_enter Tryz.func72, Tryz.ntmps72
      go_wp2
      go_ret
      refine ⟨by first | rfl | (rw [HB.out]; rfl), HS.out _ (((Only.refl _ _).one (S := fun k => k = b) rfl _).one rfl _) ?_, ((Only.refl _ _).one (S := fun k => k = b) rfl _).one rfl _⟩
      rw [HR.out, HF.out]
      have h2 := Lib.heap_setCell_same (i := 5) (Lib.heap_setCell_same (i := 3) H.out.obj (.int .i64 (f - 1))) (.int .i64 ((z : Int) + 1))
      rw [h2, HZ.out]
      rfl
    · have HF : Hid (fpass f = f) := Lib.hid (by unfold fpass; rw [if_neg h1])
      go_enter Tryz.func72, Tryz.ntmps72
      go_wp2
      go_ret
      refine ⟨by first | rfl | (rw [HB.out]; rfl), HS.out _ ((Only.refl _ _).one (S := fun k => k = b) rfl _) ?_, (Only.refl _ _).one (S := fun k => k = b) rfl _⟩
      rw [HR.out, HF.out]
      have h2 := Lib.heap_setCell_same (i := 5) H.out.obj (.int .i64 ((z : Int) + 1))
      rw [h2, HZ.out]
      rfl
end Go.Proofs.YtfneadlknieppaaGreatDoor
namespace Go.Proofs.YtfneadlknieppaaGreatDoor
open Go.RowKit
open Go.Maps

theorem winfo : (Tryz.prog.info? 78).map (fun i => (i.zero, i.size, i.bytes)) = some (some (.agg #[.int .i64 0, .string ⟨#[]⟩, .string ⟨#[]⟩, .slice none 0 0, .int .i64 0]), 5, 72) := by kernel_rfl
theorem qrows_cell {w : World} {A : Nat → Prop} {Q : List Qe} (h : ∀ e ∈ Q, BAt w A e.2 e.1.bs) : ∀ u ∈ qrows Q, u.oneCell' = true := by
  induction Q with
  | nil => intro u hu; cases hu
  | cons e r ih =>
    intro u hu
    rw [qrows] at hu
    rcases List.mem_append.1 hu with hu | hu
    · obtain ⟨p, c, hv⟩ := len_val (h e List.mem_cons_self).seen
      rw [qrow, Wk.ref, hv] at hu
      simp only [List.mem_cons, List.not_mem_nil, or_false] at hu
      rcases hu with rfl | rfl | rfl | rfl | rfl <;> rfl
    · exact ih (fun e he => h e (List.mem_cons_of_mem _ he)) u hu
theorem step_append_works {ops : Array Oper} {o : Oper} {a : Act} {w : World} {K : Act → World → Prop} {Q : Exit → Act → World → Prop} {E : Prop} (hgd : o.guard = none) (s x : Operand)
    (ho : o.op = .call { callee := .builtin .append, args := #[s, x], argTypes := #[58, 58] })
    (base : Nat) (v : Value) (hs : a.eval s = v) (hown : w.ownsRow base 78 5 v 0 []) {A : Nat → Prop} (u : Value) (n : Nat) (R : List Qe) (hn : n = R.length) (hx : a.eval x = u) (hse : QAt w A u R)
    (hb : R.length ≤ 1000000) (hbase : base ≤ w.heap.size)
    (h : ∀ v' w', w'.ownsRow base 78 5 v' n (qrows R) → w.grownBy w' v.ownBlock → K (a.put o.dst v') w') :
    if Region.wanted o (yielded ops a.tmps) = true then Oper.wp Tryz.prog o a w K Q else E := by
  have hw : Region.wanted o (yielded ops a.tmps) = true := by simp [Region.wanted, hgd]
  rw [if_pos hw]
  subst hn
  obtain ⟨i0, hi0, hz0, hz1, hz2⟩ := info_parts winfo
  rcases hse.row with ⟨rfl, rfl⟩ | ⟨g, o', cap, rfl, hc, _, hu⟩
  · have hrun := run_append_owned_none (P := Tryz.prog) (w := w) base _ o.type 78 i0 5 Tryz.underlying58 hi0 v 0 [] hown
    unfold Oper.wp
    simp [execOp, ho, resolve, invoke, builtin, hs, hx, hrun, Result.andThen]
    exact h v w hown ⟨rfl, rfl, rfl, Nat.le_refl _, fun _ _ _ => rfl⟩
  · obtain ⟨v', w', hr, h2, h3, h4, h5⟩ := run_append_own_at (P := Tryz.prog) w base _ o.type 78 i0 _ 5 72 Tryz.underlying58 hi0 hz0 hz1 hz2 rfl (by omega) v 0 [] hown ⟨g, o', none⟩ R.length cap (qrows R) (by rw [qrows_length]) (fun j u hj => by rw [Addr.add_lit]; exact hu j u hj) (qrows_cell hse.bod) (by simp [maxLen]; omega) (by omega) hbase
    unfold Oper.wp execOp
    simp only [ho, resolve, invoke, builtin, Sem.run_bind, Sem.run_pure, Result.andThen_ok, List.map_toArray, List.map_cons, List.map_nil, hs, hx, hr]
    refine h _ _ ?_ h3
    rw [Nat.zero_add, List.nil_append] at h2
    exact h2
theorem pend_end {w w1 X : World} {B b : Nat} {A : Nat → Prop} {s : St} {f : Int} {vk vp v9 u : Value} {E : List Fe} {Q : List Qe} {k : Wk} {n : Nat} (h1 : RD w1 B b A s.rpass f vk vp E Q) (o1 : Only (fun k => k = b) w w1) (hA : ∀ k, A k → k < w.heap.size) (hBw : B ≤ w.heap.size) (hB : Below w1.heap.size w1 X)
    (own : X.ownsRow w1.heap.size 78 5 v9 n (qrows Q ++ qrow (k, u))) (hn : n = Q.length + 1) (hu : BAt w1 A u k.bs) (h0 : ¬ s.fuse = 0) : (s.work k).1 = 0 ∧ RPost w B b A (s.work k).2 (X.setCell ⟨b, 2, none⟩ v9) := by
  have hwk : s.work k = (0, { s with pend := s.pend ++ [k], fuse := if 0 < s.fuse then s.fuse - 1 else s.fuse, works := s.works + 1 }) := by unfold St.work; rw [if_neg h0]
  have hrp : s.rpass = { s with fuse := if 0 < s.fuse then s.fuse - 1 else s.fuse, works := s.works + 1 } := by unfold St.rpass; rw [if_neg h0]
  rw [hwk]
  refine ⟨rfl, ?_⟩
  have hx := h1.kb hB
  have os : Only (fun k => k = b) X (X.setCell ⟨b, 2, none⟩ v9) := (Only.refl _ X).one (S := fun k => k = b) rfl _
  have hnb : ∀ k, v9.ownBlock = some k → k ≠ b := fun k hk e => by have := (own.lt k hk).1; have := h1.blt; omega
  have hsz : (X.setCell ⟨b, 2, none⟩ v9).heap.size = X.heap.size := by simp [World.setCell]
  have hw1 := o1.size
  have hX := hB.size
  have hq : QAt X (fun j => A j ∨ w1.heap.size ≤ j) v9 (Q ++ [(k, u)]) := by
    subst hn
    refine QAt.own (B := w1.heap.size) ?_ (fun k hk => .inr hk) (fun e he => ?_)
    · rw [qrows_app, List.length_append]
      have : qrows [(k, u)] = qrow (k, u) := by simp [qrows]
      rw [this]
      exact own
    · rcases List.mem_append.1 he with he | he
      · exact (hx.pend.bod e he).mono (fun k hk => .inl hk)
      · rw [List.mem_singleton.1 he]
        exact (hu.kb hB).mono (fun k hk => .inl hk)
  refine ⟨fun j => A j ∨ (w1.heap.size ≤ j ∧ j < X.heap.size), ⟨f, vk, v9, E, Q ++ [(k, u)], ?_⟩, ?_, ?_⟩
  · have hno : ¬ (A b ∨ (w1.heap.size ≤ b ∧ b < X.heap.size)) := fun e => e.elim h1.nb (fun e => by have := h1.blt; omega)
    refine { obj := ?_, fuse := by have := h1.fuse; rw [hrp] at this; exact this, kept := ?_, fbk := ?_, pend := ?_, fsq := ?_, nb := hno, bb := h1.bb, ge := ?_, lt := ?_ }
    · have := Lib.heap_setCell_same (i := 2) hx.obj v9
      rw [this, hrp]
      rfl
    · exact (hx.kept.mono (fun k hk => Or.inl hk)).kept os (fun k hk e => hno (e ▸ hk))
    · have := hx.fbk; rw [hrp] at this; exact this
    · exact ((hq.tight).mono (fun j hj => hj.1.elim .inl (fun e => .inr ⟨e, hj.2⟩))).kept os (fun k hk e => hno (e ▸ hk))
    · rw [List.map_append, hx.fsq, hrp]; rfl
    · intro j hj
      exact hj.elim (h1.ge j) (fun e => by omega)
    · intro j hj
      rw [hsz]
      exact hj.elim (fun e => by have := hA j e; omega) (fun e => e.2)
  · exact (o1.trans (Only.of_below hB (S := fun k => k = b)) (fun _ h => h) (fun _ _ h => h)).trans os (fun _ h => h) (fun _ _ h => h)
  · intro j hj
    exact hj.elim .inl (fun e => .inr (by omega))
set_option maxRecDepth 20000 in
set_option maxHeartbeats 4000000 in
theorem rpend_to (w : World) (B b : Nat) (A : Nat → Prop) (s : St) (k : Wk) (u : Value) (h : RS w B b A s) (hu : BAt w A u k.bs) (hw : s.works ≤ 900000) (hpl : s.pend.length ≤ 900000) (hf0 : s.fuse < 9223372036854775808) :
    Calls Tryz.prog 43 #[.pointer (some ⟨b,0,none⟩), .agg (k.ref u).toArray] w fun e w' => e = .returned (.int .i64 (s.work k).1) ∧ RPost w B b A (s.work k).2 w' := by
  obtain ⟨i0, hi0, hz0, hz1, hz2⟩ := info_parts winfo
  obtain ⟨f, vk, vp, E, Q, h⟩ := h
  obtain ⟨pu, cu, rfl⟩ := len_val hu.seen
  obtain ⟨pk, capk, rfl, _⟩ := h.kept.slice
  obtain ⟨p, cap, rfl, _⟩ := h.pend.slice
  have hql : Q.length = s.pend.length := by rw [← h.fsq, List.length_map]
  obtain ⟨n, hn⟩ : ∃ n, n = Q.length := ⟨_, rfl⟩
  rw [← hn] at h
  have hn6 : n ≤ 900000 := by omega
  have HN := Lib.hid hn
  have H := Lib.hid h
  have HU := Lib.hid hu
  have hf : f < 9223372036854775808 := by rcases h.fuse with e | e <;> omega
  have HF := Lib.hid hf
  have HW := Lib.hid hw
  have HM : Hid (Q.length ≤ 1000000) := Lib.hid (by omega)
  have HM9 : Hid (n + 1 ≤ maxLen ∧ (n + 1) * 72 ≤ 140737488355328) := Lib.hid (by unfold maxLen; omega)
  clear h hu hn hql hf hf0 hpl hw hn6
  have HWK : Hid (s.fuse = 0 → s.work k = (7, s.rpass)) := Lib.hid (fun h0 => by unfold St.work St.rpass; rw [if_pos h0, if_pos h0])
  have HPE : Hid (∀ w1 X v9, RD w1 B b A s.rpass (fpass f) (.slice pk E.length capk) (.slice p n cap) E Q → Only (fun k => k = b) w w1 → Below w1.heap.size w1 X → X.ownsRow w1.heap.size 78 5 v9 (n + 1) (qrows Q ++ k.ref (.slice pu k.bs.length cu)) → ¬ s.fuse = 0 → (s.work k).1 = 0 ∧ RPost w B b A (s.work k).2 (X.setCell ⟨b, 2, none⟩ v9)) :=
    Lib.hid (fun w1 X v9 h1 o1 hB own h0 => pend_end h1 o1 H.out.lt (Nat.le_trans H.out.bb (Nat.le_of_lt H.out.blt)) hB own (by rw [HN.out]) (HU.out.kept o1 (fun j hj e => H.out.nb (e ▸ hj))) h0)
  unfold Wk.ref at HPE ⊢
  obtain ⟨zk, hzk⟩ : ∃ z : Int, z = (k.kind : Int) + 1 := ⟨_, rfl⟩
  obtain ⟨zn, hzn⟩ : ∃ z : Int, z = (k.n : Int) := ⟨_, rfl⟩
  rw [← hzk, ← hzn] at HPE ⊢
  obtain ⟨nm, hnm⟩ : ∃ z, z = k.name := ⟨_, rfl⟩
  obtain ⟨to, hto⟩ : ∃ z, z = k.to := ⟨_, rfl⟩
  obtain ⟨lb, hlb⟩ : ∃ z, z = k.bs.length := ⟨_, rfl⟩
  rw [← hnm, ← hto, ← hlb] at HPE ⊢
  clear hzk hzn hnm hto hlb
  go_enter Tryz.func43, Tryz.ntmps43
  go_wp2_with fail
  have B0 : Hid (Below w.heap.size w (w.alloc (.cells #[.int .i64 zk, stv nm, stv to, .slice pu lb cu, .int .i64 zn] 78))) := Lib.hid ((Below.refl _ w).alloc (Nat.le_refl _) _)
  have X0 : Hid ((w.alloc (.cells #[.int .i64 zk, stv nm, stv to, .slice pu lb cu, .int .i64 zn] 78)).heap[w.heap.size]? = some (.cells #[.int .i64 zk, stv nm, stv to, .slice pu lb cu, .int .i64 zn] 78 (0, 0))) := Lib.hid (heap_alloc_last w _)
  generalize w.alloc (.cells #[.int .i64 zk, stv nm, stv to, .slice pu lb cu, .int .i64 zn] 78) = W0 at *
  refine (rworks_to W0 B b A s f _ _ E Q (H.out.kb B0.out) HW.out HF.out).mono ?_
  rintro e w1 ⟨rfl, h1, o1⟩
  have H1 := Lib.hid h1
  have O1 : Hid (Only (fun k => k = b) w w1) := Lib.hid ((Only.of_below B0.out).trans (S := fun k => k = b) o1 (fun _ h => h) (fun _ _ h => h))
  have X1 : Hid (w1.heap[w.heap.size]? = some (.cells #[.int .i64 zk, stv nm, stv to, .slice pu lb cu, .int .i64 zn] 78 (0, 0))) := Lib.hid ((o1.block _ (Array.getElem?_eq_some_iff.1 X0.out).1 (by have := H.out.blt; omega)).trans X0.out)
  have HNB : Hid (¬ w.heap.size = b) := Lib.hid (by have := H.out.blt; omega)
  clear h1 o1 X0 B0 H
  by_cases h0 : s.fuse = 0
  · have hb0 : (!decide (s.fuse = 0)) = false := by simp [h0]
    rw [hb0]
    have HWK0 := Lib.hid (HWK.out h0)
    clear hb0 h0 HWK
    go_wp2_with fail
    go_ret
    exact ⟨by rw [HWK0.out]; rfl, by rw [HWK0.out]; exact ⟨A, ⟨_, _, _, E, Q, H1.out⟩, O1.out, fun k hk => .inl hk⟩⟩
  · have hb0 : (!decide (s.fuse = 0)) = true := by simp [h0]
    rw [hb0]
    have HZ := Lib.hid h0
    clear hb0 h0 HWK
    have HC : Hid (∀ W, Only (fun k => k = b) w1 W → W.cell? ⟨w.heap.size, 0, none⟩ = some (.int .i64 zk) ∧ W.cell? ⟨w.heap.size, 1, none⟩ = some (stv nm) ∧ W.cell? ⟨w.heap.size, 2, none⟩ = some (stv to) ∧ W.cell? ⟨w.heap.size, 3, none⟩ = some (.slice pu lb cu) ∧ W.cell? ⟨w.heap.size, 4, none⟩ = some (.int .i64 zn)) := Lib.hid (fun W hW => by
      have hx := (hW.block _ (Array.getElem?_eq_some_iff.1 X1.out).1 (HNB.out)).trans X1.out
      exact ⟨by rw [cell_of_row W _ 0 _ _ _ hx]; rfl, by rw [cell_of_row W _ 1 _ _ _ hx]; rfl, by rw [cell_of_row W _ 2 _ _ _ hx]; rfl, by rw [cell_of_row W _ 3 _ _ _ hx]; rfl, by rw [cell_of_row W _ 4 _ _ _ hx]; rfl⟩)
    go_wp2_with fail
    try simp only [List.append]
    refine wp_region_noPanic ?_
    refine wp_region_held_drew (S := (fun W => W.cell? ⟨w.heap.size, 0, none⟩ = some (.int .i64 zk) ∧ W.cell? ⟨w.heap.size, 1, none⟩ = some (stv nm) ∧ W.cell? ⟨w.heap.size, 2, none⟩ = some (stv to) ∧ W.cell? ⟨w.heap.size, 3, none⟩ = some (.slice pu lb cu) ∧ W.cell? ⟨w.heap.size, 4, none⟩ = some (.int .i64 zn))) (by kernel_rfl) (HC.out _ (Only.refl _ w1).drew) (fun hHeld => ?_)
    refine wpAnyH_take (i := 0) (v := ?_) (by simp only [List.getElem?_toArray, List.getElem?_cons_zero]; rfl) (by kernel_rfl) (by kernel_rfl) (by kernel_rfl) (fun _ _ _ h => h) (Or.inl ⟨by rfl, ?_⟩) (by assumption) ?_
    rotate_left
    · intro w hSw
      try dsimp only at hSw
      go_simp
      try with_reducible rfl
    try simp only [Act.put, List.setIfInBounds_toArray, List.set_cons_zero, List.set_cons_succ]
    refine wpAnyH_take (i := 2) (v := ?_) (by simp only [List.getElem?_toArray, List.getElem?_cons_succ, List.getElem?_cons_zero]; rfl) (by kernel_rfl) (by kernel_rfl) (by kernel_rfl) (fun _ _ _ h => h) (Or.inl ⟨by rfl, ?_⟩) (by assumption) ?_
    rotate_left
    · intro w hSw
      try dsimp only at hSw
      go_simp
      try with_reducible rfl
    try simp only [Act.put, List.setIfInBounds_toArray, List.set_cons_zero, List.set_cons_succ]
    refine wpAnyH_take (i := 3) (v := ?_) (by simp only [List.getElem?_toArray, List.getElem?_cons_succ, List.getElem?_cons_zero]; rfl) (by kernel_rfl) (by kernel_rfl) (by kernel_rfl) (fun _ _ _ h => h) (Or.inl ⟨by rfl, ?_⟩) (by assumption) ?_
    rotate_left
    · intro w hSw
      try dsimp only at hSw
      go_simp
      try with_reducible rfl
    try simp only [Act.put, List.setIfInBounds_toArray, List.set_cons_zero, List.set_cons_succ]
    refine wpAnyH_take (i := 4) (v := ?_) (by simp only [List.getElem?_toArray, List.getElem?_cons_succ, List.getElem?_cons_zero]; rfl) (by kernel_rfl) (by kernel_rfl) (by kernel_rfl) (fun _ _ _ h => h) (Or.inl ⟨by rfl, ?_⟩) (by assumption) ?_
    rotate_left
    · intro w hSw
      try dsimp only at hSw
      go_simp
      try with_reducible rfl
    try simp only [Act.put, List.setIfInBounds_toArray, List.set_cons_zero, List.set_cons_succ]
    refine wpAnyH_take (i := 7) (v := ?_) (by simp only [List.getElem?_toArray, List.getElem?_cons_succ, List.getElem?_cons_zero]; rfl) (by kernel_rfl) (by kernel_rfl) (by kernel_rfl) (fun _ _ _ h => h) (Or.inl ⟨by rfl, ?_⟩) (by assumption) ?_
    rotate_left
    · intro w hSw
      try dsimp only at hSw
      go_simp
      try with_reducible rfl
    try simp only [Act.put, List.setIfInBounds_toArray, List.set_cons_zero, List.set_cons_succ]
    have HB : Hid (Below w1.heap.size w1 w1.drew) := Lib.hid (below_dn (m := 1) (Below.refl _ w1))
    obtain ⟨XX, hX⟩ : ∃ Z, Z = w1.drew := ⟨_, rfl⟩
    rw [← hX] at HB hHeld ⊢
    clear hX
    refine wpAnyH_ready (rs := [1, 5, 8]) (by kernel_rfl) (by simp) ?_
    refine (AllReadyH.cons (by simp only [List.getElem?_toArray, List.getElem?_cons_succ, List.getElem?_cons_zero]; rfl) (fun K hK => ?_) (AllReadyH.cons (by simp only [List.getElem?_toArray, List.getElem?_cons_succ, List.getElem?_cons_zero]; rfl) (fun K hK => ?_) (AllReadyH.cons (by simp only [List.getElem?_toArray, List.getElem?_cons_succ, List.getElem?_cons_zero]; rfl) (fun K hK => ?_) AllReadyH.nil)))
    · skip
      go_simp
      refine hK.out _ _ (HC.out _ (Only.of_below (HB.out.alloc HB.out.size _))) (fun hHeld => ?_)
      clear hK K
      try simp only [Act.put, List.setIfInBounds_toArray, List.set_cons_zero, List.set_cons_succ]
      obtain ⟨X1, hX⟩ : ∃ Z, Z = XX.alloc (.cells #[] 78) := ⟨_, rfl⟩
      have HBn : Hid (Below w1.heap.size w1 X1) := Lib.hid (hX ▸ HB.out.alloc HB.out.size _)
      have HE : Hid (X1.ownsRow w1.heap.size 78 5 (.slice (some ⟨XX.heap.size, 0, none⟩) 0 0) 0 []) := Lib.hid (hX ▸ World.ownsRow_made (base := w1.heap.size) (e := 78) (size := 5) XX #[] 0 HB.out.size (by decide) rfl)
      obtain ⟨e1, he1⟩ : ∃ z, z = XX.heap.size := ⟨_, rfl⟩
      rw [← he1] at HE ⊢
      rw [← hX]
      clear hX he1 HB
      have HB := HBn
      clear HBn
      refine wpAnyH_ready (rs := [5, 8]) (by kernel_rfl) (by simp) ?_
      refine (AllReadyH.cons (by simp only [List.getElem?_toArray, List.getElem?_cons_succ, List.getElem?_cons_zero]; rfl) (fun K hK => ?_) (AllReadyH.cons (by simp only [List.getElem?_toArray, List.getElem?_cons_succ, List.getElem?_cons_zero]; rfl) (fun K hK => ?_) AllReadyH.nil))
      · skip
        have c2 := cell_kb H1.out.c2 HB.out
        go_simp
        refine hK.out _ _ (HC.out _ (Only.of_below HB.out)) (fun hHeld => ?_)
        clear c2
        clear hK K
        try simp only [Act.put, List.setIfInBounds_toArray, List.set_cons_zero, List.set_cons_succ]
        refine wpAnyH_ready (rs := [6, 8]) (by kernel_rfl) (by simp) ?_
        refine (AllReadyH.cons (by simp only [List.getElem?_toArray, List.getElem?_cons_succ, List.getElem?_cons_zero]; rfl) (fun K hK => ?_) (AllReadyH.cons (by simp only [List.getElem?_toArray, List.getElem?_cons_succ, List.getElem?_cons_zero]; rfl) (fun K hK => ?_) AllReadyH.nil))
        · skip
          refine step_append_works (by rfl) _ _ (by rfl) w1.heap.size (.slice (some ⟨e1, 0, none⟩) 0 0) (by rfl) HE.out (.slice p n cap) n Q HN.out (by rfl) (H1.out.pend.kb HB.out) HM.out HB.out.size ?_
          intro v6 X3 own6 grow6
          have HBn : Hid (Below w1.heap.size w1 X3) := Lib.hid (HB.out.grown grow6 HB.out.size (fun k hk => (HE.out.lt k hk).1))
          obtain ⟨p6, cap6, rfl⟩ := own_slice own6
          have HO := Lib.hid own6
          clear own6 grow6 HE HB
          have HB := HBn
          clear HBn
          refine hK.out _ _ (HC.out _ (Only.of_below HB.out)) (fun hHeld => ?_)
          clear hK K
          try simp only [Act.put, List.setIfInBounds_toArray, List.set_cons_zero, List.set_cons_succ]
          refine wpAnyH_ready (rs := [8]) (by kernel_rfl) (by simp) ?_
          refine (AllReadyH.cons (by simp only [List.getElem?_toArray, List.getElem?_cons_succ, List.getElem?_cons_zero]; rfl) (fun K hK => ?_) AllReadyH.nil)
          go_simp
          refine hK.out _ _ (HC.out _ (Only.of_below (HB.out.alloc HB.out.size _))) (fun hHeld => ?_)
          clear hK K
          try simp only [Act.put, List.setIfInBounds_toArray, List.set_cons_zero, List.set_cons_succ]
          obtain ⟨X4, hX⟩ : ∃ Z, Z = X3.alloc (.cells #[.int .i64 zk, stv nm, stv to, .slice pu lb cu, .int .i64 zn] 78) := ⟨_, rfl⟩
          have HBn : Hid (Below w1.heap.size w1 X4) := Lib.hid (hX ▸ HB.out.alloc HB.out.size _)
          have HNW : Hid (X4.heap[X3.heap.size]? = some (.cells #[.int .i64 zk, stv nm, stv to, .slice pu lb cu, .int .i64 zn] 78 (0, 0))) := Lib.hid (hX ▸ heap_alloc_last X3 _)
          have HOn : Hid (X4.ownsRow _ _ _ _ _ _) := Lib.hid (hX ▸ HO.out.alloc _)
          clear HO
          have HO := HOn
          clear HOn
          obtain ⟨m8, hm8⟩ : ∃ z, z = X3.heap.size := ⟨_, rfl⟩
          rw [← hm8] at HNW ⊢
          rw [← hX]
          clear hX hm8 HB
          have HB := HBn
          clear HBn
          refine wpAnyH_ready (rs := [9]) (by kernel_rfl) (by simp) ?_
          refine (AllReadyH.cons (by simp only [List.getElem?_toArray, List.getElem?_cons_succ, List.getElem?_cons_zero]; rfl) (fun K hK => ?_) AllReadyH.nil)
          refine step_append_lies _ (by rfl) _ _ _ (by rfl) w1.heap.size 78 i0 _ 5 72 Tryz.underlying58 hi0 hz0 hz1 hz2 rfl (by omega) (.slice p6 n cap6) n (qrows Q) (by rfl) HO.out ⟨m8, 0, none⟩ 1 1 [.int .i64 zk, stv nm, stv to, .slice pu lb cu, .int .i64 zn] (by rfl) (by rfl) (World.news_of_block (cs := #[.int .i64 zk, stv nm, stv to, .slice pu lb cu, .int .i64 zn]) (t := 78) (fr := (0, 0)) HNW.out) (by simp [Value.oneCell']) (by decide) HM9.out.1 HM9.out.2 HB.out.size _ rfl ?_
          intro gg cc X5 own9 grow9 hat9 hlt9
          have HBn : Hid (Below w1.heap.size w1 X5) := Lib.hid (HB.out.grown grow9 HB.out.size (fun k hk => (HO.out.lt k hk).1))
          have HO9 := Lib.hid own9
          clear own9 grow9 hat9 hlt9 HO HB HNW
          have HB := HBn
          clear HBn
          refine hK.out _ _ (HC.out _ (Only.of_below HB.out)) (fun hHeld => ?_)
          clear hK K
          try simp only [Act.put, List.setIfInBounds_toArray, List.set_cons_zero, List.set_cons_succ]
          refine wpAnyH_take (i := 10) (v := ?_) (by simp only [List.getElem?_toArray, List.getElem?_cons_succ, List.getElem?_cons_zero]; rfl) (by kernel_rfl) (by kernel_rfl) (by kernel_rfl) (fun _ _ _ h => h) (Or.inl ⟨by rfl, ?_⟩) (by assumption) ?_
          rotate_left
          · intro w hSw
            try dsimp only at hSw
            go_simp
            try with_reducible rfl
          try simp only [Act.put, List.setIfInBounds_toArray, List.set_cons_zero, List.set_cons_succ]
          refine wpAnyH_take (i := 11) (v := ?_) (by simp only [List.getElem?_toArray, List.getElem?_cons_succ, List.getElem?_cons_zero]; rfl) (by kernel_rfl) (by kernel_rfl) (by kernel_rfl) (fun _ _ _ h => h) (Or.inl ⟨by rfl, ?_⟩) (by assumption) ?_
          rotate_left
          · intro w hSw
            try dsimp only at hSw
            go_simp
            try with_reducible rfl
          try simp only [Act.put, List.setIfInBounds_toArray, List.set_cons_zero, List.set_cons_succ]
          refine wpAnyH_ready (rs := [12]) (by kernel_rfl) (by simp) ?_
          refine (AllReadyH.cons (by simp only [List.getElem?_toArray, List.getElem?_cons_succ, List.getElem?_cons_zero]; rfl) (fun K hK => ?_) AllReadyH.nil)
          have f2 := (H1.out.kb HB.out).fz 2
          have c2 := (H1.out.kb HB.out).c2
          go_simp
          refine hK.out _ _ (HC.out _ ((Only.of_below HB.out).one (S := fun k => k = b) rfl _)) (fun hHeld => ?_)
          clear c2 f2
          clear hK K
          try simp only [Act.put, List.setIfInBounds_toArray, List.set_cons_zero, List.set_cons_succ]
          refine wpAnyH_done (by kernel_rfl) ?_ _
          refine NoPanic.normal ?_
          go_wp2_with fail
          go_ret
          have hpe := HPE.out w1 _ _ H1.out O1.out HB.out HO9.out HZ.out
          exact ⟨by rw [hpe.1]; rfl, hpe.2⟩
        · skip
          go_simp
          refine hK.out _ _ (HC.out _ (Only.of_below (HB.out.alloc HB.out.size _))) (fun hHeld => ?_)
          clear hK K
          try simp only [Act.put, List.setIfInBounds_toArray, List.set_cons_zero, List.set_cons_succ]
          obtain ⟨X7, hX⟩ : ∃ Z, Z = X1.alloc (.cells #[.int .i64 zk, stv nm, stv to, .slice pu lb cu, .int .i64 zn] 78) := ⟨_, rfl⟩
          have HBn : Hid (Below w1.heap.size w1 X7) := Lib.hid (hX ▸ HB.out.alloc HB.out.size _)
          have HNW : Hid (X7.heap[X1.heap.size]? = some (.cells #[.int .i64 zk, stv nm, stv to, .slice pu lb cu, .int .i64 zn] 78 (0, 0))) := Lib.hid (hX ▸ heap_alloc_last X1 _)
          have HEn : Hid (X7.ownsRow _ _ _ _ _ _) := Lib.hid (hX ▸ HE.out.alloc _)
          have HNE : Hid (X1.heap.size ≠ e1) := Lib.hid (by have := (HE.out.lt e1 rfl).2; omega)
          clear HE
          have HE := HEn
          clear HEn
          obtain ⟨m8, hm8⟩ : ∃ z, z = X1.heap.size := ⟨_, rfl⟩
          rw [← hm8] at HNW HNE ⊢
          rw [← hX]
          clear hX hm8 HB
          have HB := HBn
          clear HBn
          refine wpAnyH_ready (rs := [6]) (by kernel_rfl) (by simp) ?_
          refine (AllReadyH.cons (by simp only [List.getElem?_toArray, List.getElem?_cons_succ, List.getElem?_cons_zero]; rfl) (fun K hK => ?_) AllReadyH.nil)
          refine step_append_works (by rfl) _ _ (by rfl) w1.heap.size (.slice (some ⟨e1, 0, none⟩) 0 0) (by rfl) HE.out (.slice p n cap) n Q HN.out (by rfl) (H1.out.pend.kb HB.out) HM.out HB.out.size ?_
          intro v6 X8 own6 grow6
          have HBn : Hid (Below w1.heap.size w1 X8) := Lib.hid (HB.out.grown grow6 HB.out.size (fun k hk => (HE.out.lt k hk).1))
          obtain ⟨p6, cap6, rfl⟩ := own_slice own6
          have HO := Lib.hid own6
          have HNWn : Hid (X8.heap[m8]? = _) := Lib.hid ((grow6.block m8 (Array.getElem?_eq_some_iff.1 HNW.out).1 (by intro e; exact HNE.out (Option.some.inj e))).trans HNW.out)
          clear HNW
          have HNW := HNWn
          clear HNWn HNE
          clear own6 grow6 HE HB
          have HB := HBn
          clear HBn
          refine hK.out _ _ (HC.out _ (Only.of_below HB.out)) (fun hHeld => ?_)
          clear hK K
          try simp only [Act.put, List.setIfInBounds_toArray, List.set_cons_zero, List.set_cons_succ]
          refine wpAnyH_ready (rs := [9]) (by kernel_rfl) (by simp) ?_
          refine (AllReadyH.cons (by simp only [List.getElem?_toArray, List.getElem?_cons_succ, List.getElem?_cons_zero]; rfl) (fun K hK => ?_) AllReadyH.nil)
          refine step_append_lies _ (by rfl) _ _ _ (by rfl) w1.heap.size 78 i0 _ 5 72 Tryz.underlying58 hi0 hz0 hz1 hz2 rfl (by omega) (.slice p6 n cap6) n (qrows Q) (by rfl) HO.out ⟨m8, 0, none⟩ 1 1 [.int .i64 zk, stv nm, stv to, .slice pu lb cu, .int .i64 zn] (by rfl) (by rfl) (World.news_of_block (cs := #[.int .i64 zk, stv nm, stv to, .slice pu lb cu, .int .i64 zn]) (t := 78) (fr := (0, 0)) HNW.out) (by simp [Value.oneCell']) (by decide) HM9.out.1 HM9.out.2 HB.out.size _ rfl ?_
          intro gg cc X9 own9 grow9 hat9 hlt9
          have HBn : Hid (Below w1.heap.size w1 X9) := Lib.hid (HB.out.grown grow9 HB.out.size (fun k hk => (HO.out.lt k hk).1))
          have HO9 := Lib.hid own9
          clear own9 grow9 hat9 hlt9 HO HB HNW
          have HB := HBn
          clear HBn
          refine hK.out _ _ (HC.out _ (Only.of_below HB.out)) (fun hHeld => ?_)
          clear hK K
          try simp only [Act.put, List.setIfInBounds_toArray, List.set_cons_zero, List.set_cons_succ]
          refine wpAnyH_take (i := 10) (v := ?_) (by simp only [List.getElem?_toArray, List.getElem?_cons_succ, List.getElem?_cons_zero]; rfl) (by kernel_rfl) (by kernel_rfl) (by kernel_rfl) (fun _ _ _ h => h) (Or.inl ⟨by rfl, ?_⟩) (by assumption) ?_
          rotate_left
          · intro w hSw
            try dsimp only at hSw
            go_simp
            try with_reducible rfl
          try simp only [Act.put, List.setIfInBounds_toArray, List.set_cons_zero, List.set_cons_succ]
          refine wpAnyH_take (i := 11) (v := ?_) (by simp only [List.getElem?_toArray, List.getElem?_cons_succ, List.getElem?_cons_zero]; rfl) (by kernel_rfl) (by kernel_rfl) (by kernel_rfl) (fun _ _ _ h => h) (Or.inl ⟨by rfl, ?_⟩) (by assumption) ?_
          rotate_left
          · intro w hSw
            try dsimp only at hSw
            go_simp
            try with_reducible rfl
          try simp only [Act.put, List.setIfInBounds_toArray, List.set_cons_zero, List.set_cons_succ]
          refine wpAnyH_ready (rs := [12]) (by kernel_rfl) (by simp) ?_
          refine (AllReadyH.cons (by simp only [List.getElem?_toArray, List.getElem?_cons_succ, List.getElem?_cons_zero]; rfl) (fun K hK => ?_) AllReadyH.nil)
          have f2 := (H1.out.kb HB.out).fz 2
          have c2 := (H1.out.kb HB.out).c2
          go_simp
          refine hK.out _ _ (HC.out _ ((Only.of_below HB.out).one (S := fun k => k = b) rfl _)) (fun hHeld => ?_)
          clear c2 f2
          clear hK K
          try simp only [Act.put, List.setIfInBounds_toArray, List.set_cons_zero, List.set_cons_succ]
          refine wpAnyH_done (by kernel_rfl) ?_ _
          refine NoPanic.normal ?_
          go_wp2_with fail
          go_ret
          have hpe := HPE.out w1 _ _ H1.out O1.out HB.out HO9.out HZ.out
          exact ⟨by rw [hpe.1]; rfl, hpe.2⟩
      · skip
        go_simp
        refine hK.out _ _ (HC.out _ (Only.of_below (HB.out.alloc HB.out.size _))) (fun hHeld => ?_)
        clear hK K
        try simp only [Act.put, List.setIfInBounds_toArray, List.set_cons_zero, List.set_cons_succ]
        obtain ⟨X11, hX⟩ : ∃ Z, Z = X1.alloc (.cells #[.int .i64 zk, stv nm, stv to, .slice pu lb cu, .int .i64 zn] 78) := ⟨_, rfl⟩
        have HBn : Hid (Below w1.heap.size w1 X11) := Lib.hid (hX ▸ HB.out.alloc HB.out.size _)
        have HNW : Hid (X11.heap[X1.heap.size]? = some (.cells #[.int .i64 zk, stv nm, stv to, .slice pu lb cu, .int .i64 zn] 78 (0, 0))) := Lib.hid (hX ▸ heap_alloc_last X1 _)
        have HEn : Hid (X11.ownsRow _ _ _ _ _ _) := Lib.hid (hX ▸ HE.out.alloc _)
        have HNE : Hid (X1.heap.size ≠ e1) := Lib.hid (by have := (HE.out.lt e1 rfl).2; omega)
        clear HE
        have HE := HEn
        clear HEn
        obtain ⟨m8, hm8⟩ : ∃ z, z = X1.heap.size := ⟨_, rfl⟩
        rw [← hm8] at HNW HNE ⊢
        rw [← hX]
        clear hX hm8 HB
        have HB := HBn
        clear HBn
        refine wpAnyH_ready (rs := [5]) (by kernel_rfl) (by simp) ?_
        refine (AllReadyH.cons (by simp only [List.getElem?_toArray, List.getElem?_cons_succ, List.getElem?_cons_zero]; rfl) (fun K hK => ?_) AllReadyH.nil)
        have c2 := cell_kb H1.out.c2 HB.out
        go_simp
        refine hK.out _ _ (HC.out _ (Only.of_below HB.out)) (fun hHeld => ?_)
        clear c2
        clear hK K
        try simp only [Act.put, List.setIfInBounds_toArray, List.set_cons_zero, List.set_cons_succ]
        refine wpAnyH_ready (rs := [6]) (by kernel_rfl) (by simp) ?_
        refine (AllReadyH.cons (by simp only [List.getElem?_toArray, List.getElem?_cons_succ, List.getElem?_cons_zero]; rfl) (fun K hK => ?_) AllReadyH.nil)
        refine step_append_works (by rfl) _ _ (by rfl) w1.heap.size (.slice (some ⟨e1, 0, none⟩) 0 0) (by rfl) HE.out (.slice p n cap) n Q HN.out (by rfl) (H1.out.pend.kb HB.out) HM.out HB.out.size ?_
        intro v6 X13 own6 grow6
        have HBn : Hid (Below w1.heap.size w1 X13) := Lib.hid (HB.out.grown grow6 HB.out.size (fun k hk => (HE.out.lt k hk).1))
        obtain ⟨p6, cap6, rfl⟩ := own_slice own6
        have HO := Lib.hid own6
        have HNWn : Hid (X13.heap[m8]? = _) := Lib.hid ((grow6.block m8 (Array.getElem?_eq_some_iff.1 HNW.out).1 (by intro e; exact HNE.out (Option.some.inj e))).trans HNW.out)
        clear HNW
        have HNW := HNWn
        clear HNWn HNE
        clear own6 grow6 HE HB
        have HB := HBn
        clear HBn
        refine hK.out _ _ (HC.out _ (Only.of_below HB.out)) (fun hHeld => ?_)
        clear hK K
        try simp only [Act.put, List.setIfInBounds_toArray, List.set_cons_zero, List.set_cons_succ]
        refine wpAnyH_ready (rs := [9]) (by kernel_rfl) (by simp) ?_
        refine (AllReadyH.cons (by simp only [List.getElem?_toArray, List.getElem?_cons_succ, List.getElem?_cons_zero]; rfl) (fun K hK => ?_) AllReadyH.nil)
        refine step_append_lies _ (by rfl) _ _ _ (by rfl) w1.heap.size 78 i0 _ 5 72 Tryz.underlying58 hi0 hz0 hz1 hz2 rfl (by omega) (.slice p6 n cap6) n (qrows Q) (by rfl) HO.out ⟨m8, 0, none⟩ 1 1 [.int .i64 zk, stv nm, stv to, .slice pu lb cu, .int .i64 zn] (by rfl) (by rfl) (World.news_of_block (cs := #[.int .i64 zk, stv nm, stv to, .slice pu lb cu, .int .i64 zn]) (t := 78) (fr := (0, 0)) HNW.out) (by simp [Value.oneCell']) (by decide) HM9.out.1 HM9.out.2 HB.out.size _ rfl ?_
        intro gg cc X14 own9 grow9 hat9 hlt9
        have HBn : Hid (Below w1.heap.size w1 X14) := Lib.hid (HB.out.grown grow9 HB.out.size (fun k hk => (HO.out.lt k hk).1))
        have HO9 := Lib.hid own9
        clear own9 grow9 hat9 hlt9 HO HB HNW
        have HB := HBn
        clear HBn
        refine hK.out _ _ (HC.out _ (Only.of_below HB.out)) (fun hHeld => ?_)
        clear hK K
        try simp only [Act.put, List.setIfInBounds_toArray, List.set_cons_zero, List.set_cons_succ]
        refine wpAnyH_take (i := 10) (v := ?_) (by simp only [List.getElem?_toArray, List.getElem?_cons_succ, List.getElem?_cons_zero]; rfl) (by kernel_rfl) (by kernel_rfl) (by kernel_rfl) (fun _ _ _ h => h) (Or.inl ⟨by rfl, ?_⟩) (by assumption) ?_
        rotate_left
        · intro w hSw
          try dsimp only at hSw
          go_simp
          try with_reducible rfl
        try simp only [Act.put, List.setIfInBounds_toArray, List.set_cons_zero, List.set_cons_succ]
        refine wpAnyH_take (i := 11) (v := ?_) (by simp only [List.getElem?_toArray, List.getElem?_cons_succ, List.getElem?_cons_zero]; rfl) (by kernel_rfl) (by kernel_rfl) (by kernel_rfl) (fun _ _ _ h => h) (Or.inl ⟨by rfl, ?_⟩) (by assumption) ?_
        rotate_left
        · intro w hSw
          try dsimp only at hSw
          go_simp
          try with_reducible rfl
        try simp only [Act.put, List.setIfInBounds_toArray, List.set_cons_zero, List.set_cons_succ]
        refine wpAnyH_ready (rs := [12]) (by kernel_rfl) (by simp) ?_
        refine (AllReadyH.cons (by simp only [List.getElem?_toArray, List.getElem?_cons_succ, List.getElem?_cons_zero]; rfl) (fun K hK => ?_) AllReadyH.nil)
        have f2 := (H1.out.kb HB.out).fz 2
        have c2 := (H1.out.kb HB.out).c2
        go_simp
        refine hK.out _ _ (HC.out _ ((Only.of_below HB.out).one (S := fun k => k = b) rfl _)) (fun hHeld => ?_)
        clear c2 f2
        clear hK K
        try simp only [Act.put, List.setIfInBounds_toArray, List.set_cons_zero, List.set_cons_succ]
        refine wpAnyH_done (by kernel_rfl) ?_ _
        refine NoPanic.normal ?_
        go_wp2_with fail
        go_ret
        have hpe := HPE.out w1 _ _ H1.out O1.out HB.out HO9.out HZ.out
        exact ⟨by rw [hpe.1]; rfl, hpe.2⟩
    · skip
      have c2 := cell_kb H1.out.c2 HB.out
      go_simp
      refine hK.out _ _ (HC.out _ (Only.of_below HB.out)) (fun hHeld => ?_)
      clear c2
      clear hK K
      try simp only [Act.put, List.setIfInBounds_toArray, List.set_cons_zero, List.set_cons_succ]
      refine wpAnyH_ready (rs := [1, 8]) (by kernel_rfl) (by simp) ?_
      refine (AllReadyH.cons (by simp only [List.getElem?_toArray, List.getElem?_cons_succ, List.getElem?_cons_zero]; rfl) (fun K hK => ?_) (AllReadyH.cons (by simp only [List.getElem?_toArray, List.getElem?_cons_succ, List.getElem?_cons_zero]; rfl) (fun K hK => ?_) AllReadyH.nil))
      · skip
        go_simp
        refine hK.out _ _ (HC.out _ (Only.of_below (HB.out.alloc HB.out.size _))) (fun hHeld => ?_)
        clear hK K
        try simp only [Act.put, List.setIfInBounds_toArray, List.set_cons_zero, List.set_cons_succ]
        obtain ⟨X17, hX⟩ : ∃ Z, Z = XX.alloc (.cells #[] 78) := ⟨_, rfl⟩
        have HBn : Hid (Below w1.heap.size w1 X17) := Lib.hid (hX ▸ HB.out.alloc HB.out.size _)
        have HE : Hid (X17.ownsRow w1.heap.size 78 5 (.slice (some ⟨XX.heap.size, 0, none⟩) 0 0) 0 []) := Lib.hid (hX ▸ World.ownsRow_made (base := w1.heap.size) (e := 78) (size := 5) XX #[] 0 HB.out.size (by decide) rfl)
        obtain ⟨e1, he1⟩ : ∃ z, z = XX.heap.size := ⟨_, rfl⟩
        rw [← he1] at HE ⊢
        rw [← hX]
        clear hX he1 HB
        have HB := HBn
        clear HBn
        refine wpAnyH_ready (rs := [6, 8]) (by kernel_rfl) (by simp) ?_
        refine (AllReadyH.cons (by simp only [List.getElem?_toArray, List.getElem?_cons_succ, List.getElem?_cons_zero]; rfl) (fun K hK => ?_) (AllReadyH.cons (by simp only [List.getElem?_toArray, List.getElem?_cons_succ, List.getElem?_cons_zero]; rfl) (fun K hK => ?_) AllReadyH.nil))
        · skip
          refine step_append_works (by rfl) _ _ (by rfl) w1.heap.size (.slice (some ⟨e1, 0, none⟩) 0 0) (by rfl) HE.out (.slice p n cap) n Q HN.out (by rfl) (H1.out.pend.kb HB.out) HM.out HB.out.size ?_
          intro v6 X18 own6 grow6
          have HBn : Hid (Below w1.heap.size w1 X18) := Lib.hid (HB.out.grown grow6 HB.out.size (fun k hk => (HE.out.lt k hk).1))
          obtain ⟨p6, cap6, rfl⟩ := own_slice own6
          have HO := Lib.hid own6
          clear own6 grow6 HE HB
          have HB := HBn
          clear HBn
          refine hK.out _ _ (HC.out _ (Only.of_below HB.out)) (fun hHeld => ?_)
          clear hK K
          try simp only [Act.put, List.setIfInBounds_toArray, List.set_cons_zero, List.set_cons_succ]
          refine wpAnyH_ready (rs := [8]) (by kernel_rfl) (by simp) ?_
          refine (AllReadyH.cons (by simp only [List.getElem?_toArray, List.getElem?_cons_succ, List.getElem?_cons_zero]; rfl) (fun K hK => ?_) AllReadyH.nil)
          go_simp
          refine hK.out _ _ (HC.out _ (Only.of_below (HB.out.alloc HB.out.size _))) (fun hHeld => ?_)
          clear hK K
          try simp only [Act.put, List.setIfInBounds_toArray, List.set_cons_zero, List.set_cons_succ]
          obtain ⟨X19, hX⟩ : ∃ Z, Z = X18.alloc (.cells #[.int .i64 zk, stv nm, stv to, .slice pu lb cu, .int .i64 zn] 78) := ⟨_, rfl⟩
          have HBn : Hid (Below w1.heap.size w1 X19) := Lib.hid (hX ▸ HB.out.alloc HB.out.size _)
          have HNW : Hid (X19.heap[X18.heap.size]? = some (.cells #[.int .i64 zk, stv nm, stv to, .slice pu lb cu, .int .i64 zn] 78 (0, 0))) := Lib.hid (hX ▸ heap_alloc_last X18 _)
          have HOn : Hid (X19.ownsRow _ _ _ _ _ _) := Lib.hid (hX ▸ HO.out.alloc _)
          clear HO
          have HO := HOn
          clear HOn
          obtain ⟨m8, hm8⟩ : ∃ z, z = X18.heap.size := ⟨_, rfl⟩
          rw [← hm8] at HNW ⊢
          rw [← hX]
          clear hX hm8 HB
          have HB := HBn
          clear HBn
          refine wpAnyH_ready (rs := [9]) (by kernel_rfl) (by simp) ?_
          refine (AllReadyH.cons (by simp only [List.getElem?_toArray, List.getElem?_cons_succ, List.getElem?_cons_zero]; rfl) (fun K hK => ?_) AllReadyH.nil)
          refine step_append_lies _ (by rfl) _ _ _ (by rfl) w1.heap.size 78 i0 _ 5 72 Tryz.underlying58 hi0 hz0 hz1 hz2 rfl (by omega) (.slice p6 n cap6) n (qrows Q) (by rfl) HO.out ⟨m8, 0, none⟩ 1 1 [.int .i64 zk, stv nm, stv to, .slice pu lb cu, .int .i64 zn] (by rfl) (by rfl) (World.news_of_block (cs := #[.int .i64 zk, stv nm, stv to, .slice pu lb cu, .int .i64 zn]) (t := 78) (fr := (0, 0)) HNW.out) (by simp [Value.oneCell']) (by decide) HM9.out.1 HM9.out.2 HB.out.size _ rfl ?_
          intro gg cc X20 own9 grow9 hat9 hlt9
          have HBn : Hid (Below w1.heap.size w1 X20) := Lib.hid (HB.out.grown grow9 HB.out.size (fun k hk => (HO.out.lt k hk).1))
          have HO9 := Lib.hid own9
          clear own9 grow9 hat9 hlt9 HO HB HNW
          have HB := HBn
          clear HBn
          refine hK.out _ _ (HC.out _ (Only.of_below HB.out)) (fun hHeld => ?_)
          clear hK K
          try simp only [Act.put, List.setIfInBounds_toArray, List.set_cons_zero, List.set_cons_succ]
          refine wpAnyH_take (i := 10) (v := ?_) (by simp only [List.getElem?_toArray, List.getElem?_cons_succ, List.getElem?_cons_zero]; rfl) (by kernel_rfl) (by kernel_rfl) (by kernel_rfl) (fun _ _ _ h => h) (Or.inl ⟨by rfl, ?_⟩) (by assumption) ?_
          rotate_left
          · intro w hSw
            try dsimp only at hSw
            go_simp
            try with_reducible rfl
          try simp only [Act.put, List.setIfInBounds_toArray, List.set_cons_zero, List.set_cons_succ]
          refine wpAnyH_take (i := 11) (v := ?_) (by simp only [List.getElem?_toArray, List.getElem?_cons_succ, List.getElem?_cons_zero]; rfl) (by kernel_rfl) (by kernel_rfl) (by kernel_rfl) (fun _ _ _ h => h) (Or.inl ⟨by rfl, ?_⟩) (by assumption) ?_
          rotate_left
          · intro w hSw
            try dsimp only at hSw
            go_simp
            try with_reducible rfl
          try simp only [Act.put, List.setIfInBounds_toArray, List.set_cons_zero, List.set_cons_succ]
          refine wpAnyH_ready (rs := [12]) (by kernel_rfl) (by simp) ?_
          refine (AllReadyH.cons (by simp only [List.getElem?_toArray, List.getElem?_cons_succ, List.getElem?_cons_zero]; rfl) (fun K hK => ?_) AllReadyH.nil)
          have f2 := (H1.out.kb HB.out).fz 2
          have c2 := (H1.out.kb HB.out).c2
          go_simp
          refine hK.out _ _ (HC.out _ ((Only.of_below HB.out).one (S := fun k => k = b) rfl _)) (fun hHeld => ?_)
          clear c2 f2
          clear hK K
          try simp only [Act.put, List.setIfInBounds_toArray, List.set_cons_zero, List.set_cons_succ]
          refine wpAnyH_done (by kernel_rfl) ?_ _
          refine NoPanic.normal ?_
          go_wp2_with fail
          go_ret
          have hpe := HPE.out w1 _ _ H1.out O1.out HB.out HO9.out HZ.out
          exact ⟨by rw [hpe.1]; rfl, hpe.2⟩
        · skip
          go_simp
          refine hK.out _ _ (HC.out _ (Only.of_below (HB.out.alloc HB.out.size _))) (fun hHeld => ?_)
          clear hK K
          try simp only [Act.put, List.setIfInBounds_toArray, List.set_cons_zero, List.set_cons_succ]
          obtain ⟨X22, hX⟩ : ∃ Z, Z = X17.alloc (.cells #[.int .i64 zk, stv nm, stv to, .slice pu lb cu, .int .i64 zn] 78) := ⟨_, rfl⟩
          have HBn : Hid (Below w1.heap.size w1 X22) := Lib.hid (hX ▸ HB.out.alloc HB.out.size _)
          have HNW : Hid (X22.heap[X17.heap.size]? = some (.cells #[.int .i64 zk, stv nm, stv to, .slice pu lb cu, .int .i64 zn] 78 (0, 0))) := Lib.hid (hX ▸ heap_alloc_last X17 _)
          have HEn : Hid (X22.ownsRow _ _ _ _ _ _) := Lib.hid (hX ▸ HE.out.alloc _)
          have HNE : Hid (X17.heap.size ≠ e1) := Lib.hid (by have := (HE.out.lt e1 rfl).2; omega)
          clear HE
          have HE := HEn
          clear HEn
          obtain ⟨m8, hm8⟩ : ∃ z, z = X17.heap.size := ⟨_, rfl⟩
          rw [← hm8] at HNW HNE ⊢
          rw [← hX]
          clear hX hm8 HB
          have HB := HBn
          clear HBn
          refine wpAnyH_ready (rs := [6]) (by kernel_rfl) (by simp) ?_
          refine (AllReadyH.cons (by simp only [List.getElem?_toArray, List.getElem?_cons_succ, List.getElem?_cons_zero]; rfl) (fun K hK => ?_) AllReadyH.nil)
          refine step_append_works (by rfl) _ _ (by rfl) w1.heap.size (.slice (some ⟨e1, 0, none⟩) 0 0) (by rfl) HE.out (.slice p n cap) n Q HN.out (by rfl) (H1.out.pend.kb HB.out) HM.out HB.out.size ?_
          intro v6 X23 own6 grow6
          have HBn : Hid (Below w1.heap.size w1 X23) := Lib.hid (HB.out.grown grow6 HB.out.size (fun k hk => (HE.out.lt k hk).1))
          obtain ⟨p6, cap6, rfl⟩ := own_slice own6
          have HO := Lib.hid own6
          have HNWn : Hid (X23.heap[m8]? = _) := Lib.hid ((grow6.block m8 (Array.getElem?_eq_some_iff.1 HNW.out).1 (by intro e; exact HNE.out (Option.some.inj e))).trans HNW.out)
          clear HNW
          have HNW := HNWn
          clear HNWn HNE
          clear own6 grow6 HE HB
          have HB := HBn
          clear HBn
          refine hK.out _ _ (HC.out _ (Only.of_below HB.out)) (fun hHeld => ?_)
          clear hK K
          try simp only [Act.put, List.setIfInBounds_toArray, List.set_cons_zero, List.set_cons_succ]
          refine wpAnyH_ready (rs := [9]) (by kernel_rfl) (by simp) ?_
          refine (AllReadyH.cons (by simp only [List.getElem?_toArray, List.getElem?_cons_succ, List.getElem?_cons_zero]; rfl) (fun K hK => ?_) AllReadyH.nil)
          refine step_append_lies _ (by rfl) _ _ _ (by rfl) w1.heap.size 78 i0 _ 5 72 Tryz.underlying58 hi0 hz0 hz1 hz2 rfl (by omega) (.slice p6 n cap6) n (qrows Q) (by rfl) HO.out ⟨m8, 0, none⟩ 1 1 [.int .i64 zk, stv nm, stv to, .slice pu lb cu, .int .i64 zn] (by rfl) (by rfl) (World.news_of_block (cs := #[.int .i64 zk, stv nm, stv to, .slice pu lb cu, .int .i64 zn]) (t := 78) (fr := (0, 0)) HNW.out) (by simp [Value.oneCell']) (by decide) HM9.out.1 HM9.out.2 HB.out.size _ rfl ?_
          intro gg cc X24 own9 grow9 hat9 hlt9
          have HBn : Hid (Below w1.heap.size w1 X24) := Lib.hid (HB.out.grown grow9 HB.out.size (fun k hk => (HO.out.lt k hk).1))
          have HO9 := Lib.hid own9
          clear own9 grow9 hat9 hlt9 HO HB HNW
          have HB := HBn
          clear HBn
          refine hK.out _ _ (HC.out _ (Only.of_below HB.out)) (fun hHeld => ?_)
          clear hK K
          try simp only [Act.put, List.setIfInBounds_toArray, List.set_cons_zero, List.set_cons_succ]
          refine wpAnyH_take (i := 10) (v := ?_) (by simp only [List.getElem?_toArray, List.getElem?_cons_succ, List.getElem?_cons_zero]; rfl) (by kernel_rfl) (by kernel_rfl) (by kernel_rfl) (fun _ _ _ h => h) (Or.inl ⟨by rfl, ?_⟩) (by assumption) ?_
          rotate_left
          · intro w hSw
            try dsimp only at hSw
            go_simp
            try with_reducible rfl
          try simp only [Act.put, List.setIfInBounds_toArray, List.set_cons_zero, List.set_cons_succ]
          refine wpAnyH_take (i := 11) (v := ?_) (by simp only [List.getElem?_toArray, List.getElem?_cons_succ, List.getElem?_cons_zero]; rfl) (by kernel_rfl) (by kernel_rfl) (by kernel_rfl) (fun _ _ _ h => h) (Or.inl ⟨by rfl, ?_⟩) (by assumption) ?_
          rotate_left
          · intro w hSw
            try dsimp only at hSw
            go_simp
            try with_reducible rfl
          try simp only [Act.put, List.setIfInBounds_toArray, List.set_cons_zero, List.set_cons_succ]
          refine wpAnyH_ready (rs := [12]) (by kernel_rfl) (by simp) ?_
          refine (AllReadyH.cons (by simp only [List.getElem?_toArray, List.getElem?_cons_succ, List.getElem?_cons_zero]; rfl) (fun K hK => ?_) AllReadyH.nil)
          have f2 := (H1.out.kb HB.out).fz 2
          have c2 := (H1.out.kb HB.out).c2
          go_simp
          refine hK.out _ _ (HC.out _ ((Only.of_below HB.out).one (S := fun k => k = b) rfl _)) (fun hHeld => ?_)
          clear c2 f2
          clear hK K
          try simp only [Act.put, List.setIfInBounds_toArray, List.set_cons_zero, List.set_cons_succ]
          refine wpAnyH_done (by kernel_rfl) ?_ _
          refine NoPanic.normal ?_
          go_wp2_with fail
          go_ret
          have hpe := HPE.out w1 _ _ H1.out O1.out HB.out HO9.out HZ.out
          exact ⟨by rw [hpe.1]; rfl, hpe.2⟩
      · skip
        go_simp
        refine hK.out _ _ (HC.out _ (Only.of_below (HB.out.alloc HB.out.size _))) (fun hHeld => ?_)
        clear hK K
        try simp only [Act.put, List.setIfInBounds_toArray, List.set_cons_zero, List.set_cons_succ]
        obtain ⟨X26, hX⟩ : ∃ Z, Z = XX.alloc (.cells #[.int .i64 zk, stv nm, stv to, .slice pu lb cu, .int .i64 zn] 78) := ⟨_, rfl⟩
        have HBn : Hid (Below w1.heap.size w1 X26) := Lib.hid (hX ▸ HB.out.alloc HB.out.size _)
        have HNW : Hid (X26.heap[XX.heap.size]? = some (.cells #[.int .i64 zk, stv nm, stv to, .slice pu lb cu, .int .i64 zn] 78 (0, 0))) := Lib.hid (hX ▸ heap_alloc_last XX _)
        obtain ⟨m8, hm8⟩ : ∃ z, z = XX.heap.size := ⟨_, rfl⟩
        rw [← hm8] at HNW ⊢
        rw [← hX]
        clear hX hm8 HB
        have HB := HBn
        clear HBn
        refine wpAnyH_ready (rs := [1]) (by kernel_rfl) (by simp) ?_
        refine (AllReadyH.cons (by simp only [List.getElem?_toArray, List.getElem?_cons_succ, List.getElem?_cons_zero]; rfl) (fun K hK => ?_) AllReadyH.nil)
        go_simp
        refine hK.out _ _ (HC.out _ (Only.of_below (HB.out.alloc HB.out.size _))) (fun hHeld => ?_)
        clear hK K
        try simp only [Act.put, List.setIfInBounds_toArray, List.set_cons_zero, List.set_cons_succ]
        obtain ⟨X27, hX⟩ : ∃ Z, Z = X26.alloc (.cells #[] 78) := ⟨_, rfl⟩
        have HBn : Hid (Below w1.heap.size w1 X27) := Lib.hid (hX ▸ HB.out.alloc HB.out.size _)
        have HE : Hid (X27.ownsRow w1.heap.size 78 5 (.slice (some ⟨X26.heap.size, 0, none⟩) 0 0) 0 []) := Lib.hid (hX ▸ World.ownsRow_made (base := w1.heap.size) (e := 78) (size := 5) X26 #[] 0 HB.out.size (by decide) rfl)
        have HNWn : Hid (X27.heap[m8]? = _) := Lib.hid (hX ▸ (Below.heap_alloc X26 _ _ (Array.getElem?_eq_some_iff.1 HNW.out).1).trans HNW.out)
        have HNE : Hid (m8 ≠ X26.heap.size) := Lib.hid (by have := (Array.getElem?_eq_some_iff.1 HNW.out).1; omega)
        clear HNW
        have HNW := HNWn
        clear HNWn
        obtain ⟨e1, he1⟩ : ∃ z, z = X26.heap.size := ⟨_, rfl⟩
        rw [← he1] at HE HNE ⊢
        rw [← hX]
        clear hX he1 HB
        have HB := HBn
        clear HBn
        refine wpAnyH_ready (rs := [6]) (by kernel_rfl) (by simp) ?_
        refine (AllReadyH.cons (by simp only [List.getElem?_toArray, List.getElem?_cons_succ, List.getElem?_cons_zero]; rfl) (fun K hK => ?_) AllReadyH.nil)
        refine step_append_works (by rfl) _ _ (by rfl) w1.heap.size (.slice (some ⟨e1, 0, none⟩) 0 0) (by rfl) HE.out (.slice p n cap) n Q HN.out (by rfl) (H1.out.pend.kb HB.out) HM.out HB.out.size ?_
        intro v6 X28 own6 grow6
        have HBn : Hid (Below w1.heap.size w1 X28) := Lib.hid (HB.out.grown grow6 HB.out.size (fun k hk => (HE.out.lt k hk).1))
        obtain ⟨p6, cap6, rfl⟩ := own_slice own6
        have HO := Lib.hid own6
        have HNWn : Hid (X28.heap[m8]? = _) := Lib.hid ((grow6.block m8 (Array.getElem?_eq_some_iff.1 HNW.out).1 (by intro e; exact HNE.out (Option.some.inj e))).trans HNW.out)
        clear HNW
        have HNW := HNWn
        clear HNWn HNE
        clear own6 grow6 HE HB
        have HB := HBn
        clear HBn
        refine hK.out _ _ (HC.out _ (Only.of_below HB.out)) (fun hHeld => ?_)
        clear hK K
        try simp only [Act.put, List.setIfInBounds_toArray, List.set_cons_zero, List.set_cons_succ]
        refine wpAnyH_ready (rs := [9]) (by kernel_rfl) (by simp) ?_
        refine (AllReadyH.cons (by simp only [List.getElem?_toArray, List.getElem?_cons_succ, List.getElem?_cons_zero]; rfl) (fun K hK => ?_) AllReadyH.nil)
        refine step_append_lies _ (by rfl) _ _ _ (by rfl) w1.heap.size 78 i0 _ 5 72 Tryz.underlying58 hi0 hz0 hz1 hz2 rfl (by omega) (.slice p6 n cap6) n (qrows Q) (by rfl) HO.out ⟨m8, 0, none⟩ 1 1 [.int .i64 zk, stv nm, stv to, .slice pu lb cu, .int .i64 zn] (by rfl) (by rfl) (World.news_of_block (cs := #[.int .i64 zk, stv nm, stv to, .slice pu lb cu, .int .i64 zn]) (t := 78) (fr := (0, 0)) HNW.out) (by simp [Value.oneCell']) (by decide) HM9.out.1 HM9.out.2 HB.out.size _ rfl ?_
        intro gg cc X29 own9 grow9 hat9 hlt9
        have HBn : Hid (Below w1.heap.size w1 X29) := Lib.hid (HB.out.grown grow9 HB.out.size (fun k hk => (HO.out.lt k hk).1))
        have HO9 := Lib.hid own9
        clear own9 grow9 hat9 hlt9 HO HB HNW
        have HB := HBn
        clear HBn
        refine hK.out _ _ (HC.out _ (Only.of_below HB.out)) (fun hHeld => ?_)
        clear hK K
        try simp only [Act.put, List.setIfInBounds_toArray, List.set_cons_zero, List.set_cons_succ]
        refine wpAnyH_take (i := 10) (v := ?_) (by simp only [List.getElem?_toArray, List.getElem?_cons_succ, List.getElem?_cons_zero]; rfl) (by kernel_rfl) (by kernel_rfl) (by kernel_rfl) (fun _ _ _ h => h) (Or.inl ⟨by rfl, ?_⟩) (by assumption) ?_
        rotate_left
        · intro w hSw
          try dsimp only at hSw
          go_simp
          try with_reducible rfl
        try simp only [Act.put, List.setIfInBounds_toArray, List.set_cons_zero, List.set_cons_succ]
        refine wpAnyH_take (i := 11) (v := ?_) (by simp only [List.getElem?_toArray, List.getElem?_cons_succ, List.getElem?_cons_zero]; rfl) (by kernel_rfl) (by kernel_rfl) (by kernel_rfl) (fun _ _ _ h => h) (Or.inl ⟨by rfl, ?_⟩) (by assumption) ?_
        rotate_left
        · intro w hSw
          try dsimp only at hSw
          go_simp
          try with_reducible rfl
        try simp only [Act.put, List.setIfInBounds_toArray, List.set_cons_zero, List.set_cons_succ]
        refine wpAnyH_ready (rs := [12]) (by kernel_rfl) (by simp) ?_
        refine (AllReadyH.cons (by simp only [List.getElem?_toArray, List.getElem?_cons_succ, List.getElem?_cons_zero]; rfl) (fun K hK => ?_) AllReadyH.nil)
        have f2 := (H1.out.kb HB.out).fz 2
        have c2 := (H1.out.kb HB.out).c2
        go_simp
        refine hK.out _ _ (HC.out _ ((Only.of_below HB.out).one (S := fun k => k = b) rfl _)) (fun hHeld => ?_)
        clear c2 f2
        clear hK K
        try simp only [Act.put, List.setIfInBounds_toArray, List.set_cons_zero, List.set_cons_succ]
        refine wpAnyH_done (by kernel_rfl) ?_ _
        refine NoPanic.normal ?_
        go_wp2_with fail
        go_ret
        have hpe := HPE.out w1 _ _ H1.out O1.out HB.out HO9.out HZ.out
        exact ⟨by rw [hpe.1]; rfl, hpe.2⟩
    · skip
      go_simp
      refine hK.out _ _ (HC.out _ (Only.of_below (HB.out.alloc HB.out.size _))) (fun hHeld => ?_)
      clear hK K
      try simp only [Act.put, List.setIfInBounds_toArray, List.set_cons_zero, List.set_cons_succ]
      obtain ⟨X31, hX⟩ : ∃ Z, Z = XX.alloc (.cells #[.int .i64 zk, stv nm, stv to, .slice pu lb cu, .int .i64 zn] 78) := ⟨_, rfl⟩
      have HBn : Hid (Below w1.heap.size w1 X31) := Lib.hid (hX ▸ HB.out.alloc HB.out.size _)
      have HNW : Hid (X31.heap[XX.heap.size]? = some (.cells #[.int .i64 zk, stv nm, stv to, .slice pu lb cu, .int .i64 zn] 78 (0, 0))) := Lib.hid (hX ▸ heap_alloc_last XX _)
      obtain ⟨m8, hm8⟩ : ∃ z, z = XX.heap.size := ⟨_, rfl⟩
      rw [← hm8] at HNW ⊢
      rw [← hX]
      clear hX hm8 HB
      have HB := HBn
      clear HBn
      refine wpAnyH_ready (rs := [1, 5]) (by kernel_rfl) (by simp) ?_
      refine (AllReadyH.cons (by simp only [List.getElem?_toArray, List.getElem?_cons_succ, List.getElem?_cons_zero]; rfl) (fun K hK => ?_) (AllReadyH.cons (by simp only [List.getElem?_toArray, List.getElem?_cons_succ, List.getElem?_cons_zero]; rfl) (fun K hK => ?_) AllReadyH.nil))
      · skip
        go_simp
        refine hK.out _ _ (HC.out _ (Only.of_below (HB.out.alloc HB.out.size _))) (fun hHeld => ?_)
        clear hK K
        try simp only [Act.put, List.setIfInBounds_toArray, List.set_cons_zero, List.set_cons_succ]
        obtain ⟨X32, hX⟩ : ∃ Z, Z = X31.alloc (.cells #[] 78) := ⟨_, rfl⟩
        have HBn : Hid (Below w1.heap.size w1 X32) := Lib.hid (hX ▸ HB.out.alloc HB.out.size _)
        have HE : Hid (X32.ownsRow w1.heap.size 78 5 (.slice (some ⟨X31.heap.size, 0, none⟩) 0 0) 0 []) := Lib.hid (hX ▸ World.ownsRow_made (base := w1.heap.size) (e := 78) (size := 5) X31 #[] 0 HB.out.size (by decide) rfl)
        have HNWn : Hid (X32.heap[m8]? = _) := Lib.hid (hX ▸ (Below.heap_alloc X31 _ _ (Array.getElem?_eq_some_iff.1 HNW.out).1).trans HNW.out)
        have HNE : Hid (m8 ≠ X31.heap.size) := Lib.hid (by have := (Array.getElem?_eq_some_iff.1 HNW.out).1; omega)
        clear HNW
        have HNW := HNWn
        clear HNWn
        obtain ⟨e1, he1⟩ : ∃ z, z = X31.heap.size := ⟨_, rfl⟩
        rw [← he1] at HE HNE ⊢
        rw [← hX]
        clear hX he1 HB
        have HB := HBn
        clear HBn
        refine wpAnyH_ready (rs := [5]) (by kernel_rfl) (by simp) ?_
        refine (AllReadyH.cons (by simp only [List.getElem?_toArray, List.getElem?_cons_succ, List.getElem?_cons_zero]; rfl) (fun K hK => ?_) AllReadyH.nil)
        have c2 := cell_kb H1.out.c2 HB.out
        go_simp
        refine hK.out _ _ (HC.out _ (Only.of_below HB.out)) (fun hHeld => ?_)
        clear c2
        clear hK K
        try simp only [Act.put, List.setIfInBounds_toArray, List.set_cons_zero, List.set_cons_succ]
        refine wpAnyH_ready (rs := [6]) (by kernel_rfl) (by simp) ?_
        refine (AllReadyH.cons (by simp only [List.getElem?_toArray, List.getElem?_cons_succ, List.getElem?_cons_zero]; rfl) (fun K hK => ?_) AllReadyH.nil)
        refine step_append_works (by rfl) _ _ (by rfl) w1.heap.size (.slice (some ⟨e1, 0, none⟩) 0 0) (by rfl) HE.out (.slice p n cap) n Q HN.out (by rfl) (H1.out.pend.kb HB.out) HM.out HB.out.size ?_
        intro v6 X34 own6 grow6
        have HBn : Hid (Below w1.heap.size w1 X34) := Lib.hid (HB.out.grown grow6 HB.out.size (fun k hk => (HE.out.lt k hk).1))
        obtain ⟨p6, cap6, rfl⟩ := own_slice own6
        have HO := Lib.hid own6
        have HNWn : Hid (X34.heap[m8]? = _) := Lib.hid ((grow6.block m8 (Array.getElem?_eq_some_iff.1 HNW.out).1 (by intro e; exact HNE.out (Option.some.inj e))).trans HNW.out)
        clear HNW
        have HNW := HNWn
        clear HNWn HNE
        clear own6 grow6 HE HB
        have HB := HBn
        clear HBn
        refine hK.out _ _ (HC.out _ (Only.of_below HB.out)) (fun hHeld => ?_)
        clear hK K
        try simp only [Act.put, List.setIfInBounds_toArray, List.set_cons_zero, List.set_cons_succ]
        refine wpAnyH_ready (rs := [9]) (by kernel_rfl) (by simp) ?_
        refine (AllReadyH.cons (by simp only [List.getElem?_toArray, List.getElem?_cons_succ, List.getElem?_cons_zero]; rfl) (fun K hK => ?_) AllReadyH.nil)
        refine step_append_lies _ (by rfl) _ _ _ (by rfl) w1.heap.size 78 i0 _ 5 72 Tryz.underlying58 hi0 hz0 hz1 hz2 rfl (by omega) (.slice p6 n cap6) n (qrows Q) (by rfl) HO.out ⟨m8, 0, none⟩ 1 1 [.int .i64 zk, stv nm, stv to, .slice pu lb cu, .int .i64 zn] (by rfl) (by rfl) (World.news_of_block (cs := #[.int .i64 zk, stv nm, stv to, .slice pu lb cu, .int .i64 zn]) (t := 78) (fr := (0, 0)) HNW.out) (by simp [Value.oneCell']) (by decide) HM9.out.1 HM9.out.2 HB.out.size _ rfl ?_
        intro gg cc X35 own9 grow9 hat9 hlt9
        have HBn : Hid (Below w1.heap.size w1 X35) := Lib.hid (HB.out.grown grow9 HB.out.size (fun k hk => (HO.out.lt k hk).1))
        have HO9 := Lib.hid own9
        clear own9 grow9 hat9 hlt9 HO HB HNW
        have HB := HBn
        clear HBn
        refine hK.out _ _ (HC.out _ (Only.of_below HB.out)) (fun hHeld => ?_)
        clear hK K
        try simp only [Act.put, List.setIfInBounds_toArray, List.set_cons_zero, List.set_cons_succ]
        refine wpAnyH_take (i := 10) (v := ?_) (by simp only [List.getElem?_toArray, List.getElem?_cons_succ, List.getElem?_cons_zero]; rfl) (by kernel_rfl) (by kernel_rfl) (by kernel_rfl) (fun _ _ _ h => h) (Or.inl ⟨by rfl, ?_⟩) (by assumption) ?_
        rotate_left
        · intro w hSw
          try dsimp only at hSw
          go_simp
          try with_reducible rfl
        try simp only [Act.put, List.setIfInBounds_toArray, List.set_cons_zero, List.set_cons_succ]
        refine wpAnyH_take (i := 11) (v := ?_) (by simp only [List.getElem?_toArray, List.getElem?_cons_succ, List.getElem?_cons_zero]; rfl) (by kernel_rfl) (by kernel_rfl) (by kernel_rfl) (fun _ _ _ h => h) (Or.inl ⟨by rfl, ?_⟩) (by assumption) ?_
        rotate_left
        · intro w hSw
          try dsimp only at hSw
          go_simp
          try with_reducible rfl
        try simp only [Act.put, List.setIfInBounds_toArray, List.set_cons_zero, List.set_cons_succ]
        refine wpAnyH_ready (rs := [12]) (by kernel_rfl) (by simp) ?_
        refine (AllReadyH.cons (by simp only [List.getElem?_toArray, List.getElem?_cons_succ, List.getElem?_cons_zero]; rfl) (fun K hK => ?_) AllReadyH.nil)
        have f2 := (H1.out.kb HB.out).fz 2
        have c2 := (H1.out.kb HB.out).c2
        go_simp
        refine hK.out _ _ (HC.out _ ((Only.of_below HB.out).one (S := fun k => k = b) rfl _)) (fun hHeld => ?_)
        clear c2 f2
        clear hK K
        try simp only [Act.put, List.setIfInBounds_toArray, List.set_cons_zero, List.set_cons_succ]
        refine wpAnyH_done (by kernel_rfl) ?_ _
        refine NoPanic.normal ?_
        go_wp2_with fail
        go_ret
        have hpe := HPE.out w1 _ _ H1.out O1.out HB.out HO9.out HZ.out
        exact ⟨by rw [hpe.1]; rfl, hpe.2⟩
      · skip
        have c2 := cell_kb H1.out.c2 HB.out
        go_simp
        refine hK.out _ _ (HC.out _ (Only.of_below HB.out)) (fun hHeld => ?_)
        clear c2
        clear hK K
        try simp only [Act.put, List.setIfInBounds_toArray, List.set_cons_zero, List.set_cons_succ]
        refine wpAnyH_ready (rs := [1]) (by kernel_rfl) (by simp) ?_
        refine (AllReadyH.cons (by simp only [List.getElem?_toArray, List.getElem?_cons_succ, List.getElem?_cons_zero]; rfl) (fun K hK => ?_) AllReadyH.nil)
        go_simp
        refine hK.out _ _ (HC.out _ (Only.of_below (HB.out.alloc HB.out.size _))) (fun hHeld => ?_)
        clear hK K
        try simp only [Act.put, List.setIfInBounds_toArray, List.set_cons_zero, List.set_cons_succ]
        obtain ⟨X38, hX⟩ : ∃ Z, Z = X31.alloc (.cells #[] 78) := ⟨_, rfl⟩
        have HBn : Hid (Below w1.heap.size w1 X38) := Lib.hid (hX ▸ HB.out.alloc HB.out.size _)
        have HE : Hid (X38.ownsRow w1.heap.size 78 5 (.slice (some ⟨X31.heap.size, 0, none⟩) 0 0) 0 []) := Lib.hid (hX ▸ World.ownsRow_made (base := w1.heap.size) (e := 78) (size := 5) X31 #[] 0 HB.out.size (by decide) rfl)
        have HNWn : Hid (X38.heap[m8]? = _) := Lib.hid (hX ▸ (Below.heap_alloc X31 _ _ (Array.getElem?_eq_some_iff.1 HNW.out).1).trans HNW.out)
        have HNE : Hid (m8 ≠ X31.heap.size) := Lib.hid (by have := (Array.getElem?_eq_some_iff.1 HNW.out).1; omega)
        clear HNW
        have HNW := HNWn
        clear HNWn
        obtain ⟨e1, he1⟩ : ∃ z, z = X31.heap.size := ⟨_, rfl⟩
        rw [← he1] at HE HNE ⊢
        rw [← hX]
        clear hX he1 HB
        have HB := HBn
        clear HBn
        refine wpAnyH_ready (rs := [6]) (by kernel_rfl) (by simp) ?_
        refine (AllReadyH.cons (by simp only [List.getElem?_toArray, List.getElem?_cons_succ, List.getElem?_cons_zero]; rfl) (fun K hK => ?_) AllReadyH.nil)
        refine step_append_works (by rfl) _ _ (by rfl) w1.heap.size (.slice (some ⟨e1, 0, none⟩) 0 0) (by rfl) HE.out (.slice p n cap) n Q HN.out (by rfl) (H1.out.pend.kb HB.out) HM.out HB.out.size ?_
        intro v6 X39 own6 grow6
        have HBn : Hid (Below w1.heap.size w1 X39) := Lib.hid (HB.out.grown grow6 HB.out.size (fun k hk => (HE.out.lt k hk).1))
        obtain ⟨p6, cap6, rfl⟩ := own_slice own6
        have HO := Lib.hid own6
        have HNWn : Hid (X39.heap[m8]? = _) := Lib.hid ((grow6.block m8 (Array.getElem?_eq_some_iff.1 HNW.out).1 (by intro e; exact HNE.out (Option.some.inj e))).trans HNW.out)
        clear HNW
        have HNW := HNWn
        clear HNWn HNE
        clear own6 grow6 HE HB
        have HB := HBn
        clear HBn
        refine hK.out _ _ (HC.out _ (Only.of_below HB.out)) (fun hHeld => ?_)
        clear hK K
        try simp only [Act.put, List.setIfInBounds_toArray, List.set_cons_zero, List.set_cons_succ]
        refine wpAnyH_ready (rs := [9]) (by kernel_rfl) (by simp) ?_
        refine (AllReadyH.cons (by simp only [List.getElem?_toArray, List.getElem?_cons_succ, List.getElem?_cons_zero]; rfl) (fun K hK => ?_) AllReadyH.nil)
        refine step_append_lies _ (by rfl) _ _ _ (by rfl) w1.heap.size 78 i0 _ 5 72 Tryz.underlying58 hi0 hz0 hz1 hz2 rfl (by omega) (.slice p6 n cap6) n (qrows Q) (by rfl) HO.out ⟨m8, 0, none⟩ 1 1 [.int .i64 zk, stv nm, stv to, .slice pu lb cu, .int .i64 zn] (by rfl) (by rfl) (World.news_of_block (cs := #[.int .i64 zk, stv nm, stv to, .slice pu lb cu, .int .i64 zn]) (t := 78) (fr := (0, 0)) HNW.out) (by simp [Value.oneCell']) (by decide) HM9.out.1 HM9.out.2 HB.out.size _ rfl ?_
        intro gg cc X40 own9 grow9 hat9 hlt9
        have HBn : Hid (Below w1.heap.size w1 X40) := Lib.hid (HB.out.grown grow9 HB.out.size (fun k hk => (HO.out.lt k hk).1))
        have HO9 := Lib.hid own9
        clear own9 grow9 hat9 hlt9 HO HB HNW
        have HB := HBn
        clear HBn
        refine hK.out _ _ (HC.out _ (Only.of_below HB.out)) (fun hHeld => ?_)
        clear hK K
        try simp only [Act.put, List.setIfInBounds_toArray, List.set_cons_zero, List.set_cons_succ]
        refine wpAnyH_take (i := 10) (v := ?_) (by simp only [List.getElem?_toArray, List.getElem?_cons_succ, List.getElem?_cons_zero]; rfl) (by kernel_rfl) (by kernel_rfl) (by kernel_rfl) (fun _ _ _ h => h) (Or.inl ⟨by rfl, ?_⟩) (by assumption) ?_
        rotate_left
        · intro w hSw
          try dsimp only at hSw
          go_simp
          try with_reducible rfl
        try simp only [Act.put, List.setIfInBounds_toArray, List.set_cons_zero, List.set_cons_succ]
        refine wpAnyH_take (i := 11) (v := ?_) (by simp only [List.getElem?_toArray, List.getElem?_cons_succ, List.getElem?_cons_zero]; rfl) (by kernel_rfl) (by kernel_rfl) (by kernel_rfl) (fun _ _ _ h => h) (Or.inl ⟨by rfl, ?_⟩) (by assumption) ?_
        rotate_left
        · intro w hSw
          try dsimp only at hSw
          go_simp
          try with_reducible rfl
        try simp only [Act.put, List.setIfInBounds_toArray, List.set_cons_zero, List.set_cons_succ]
        refine wpAnyH_ready (rs := [12]) (by kernel_rfl) (by simp) ?_
        refine (AllReadyH.cons (by simp only [List.getElem?_toArray, List.getElem?_cons_succ, List.getElem?_cons_zero]; rfl) (fun K hK => ?_) AllReadyH.nil)
        have f2 := (H1.out.kb HB.out).fz 2
        have c2 := (H1.out.kb HB.out).c2
        go_simp
        refine hK.out _ _ (HC.out _ ((Only.of_below HB.out).one (S := fun k => k = b) rfl _)) (fun hHeld => ?_)
        clear c2 f2
        clear hK K
        try simp only [Act.put, List.setIfInBounds_toArray, List.set_cons_zero, List.set_cons_succ]
        refine wpAnyH_done (by kernel_rfl) ?_ _
        refine NoPanic.normal ?_
        go_wp2_with fail
        go_ret
        have hpe := HPE.out w1 _ _ H1.out O1.out HB.out HO9.out HZ.out
        exact ⟨by rw [hpe.1]; rfl, hpe.2⟩
end Go.Proofs.YtfneadlknieppaaGreatDoor
