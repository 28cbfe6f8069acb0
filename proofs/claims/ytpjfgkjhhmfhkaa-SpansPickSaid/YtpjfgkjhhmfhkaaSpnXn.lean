/- The reference's Minus. Conditions: no more than some hundred thousand spans together; no end above the largest number. -/
import Derived.Test.YtpjfgkjhhmfhkaaSpnXm
import Derived.Test.YtpjfgkjhhmfhkaaSpnB
namespace Go.Proofs.Ytpjfgkjhhmfhkaa
open Go.RowKit

/-- What is left of one span without another one. -/
def pc (t s : Sp) : List Sp :=
  if s.2 < t.1 ∨ t.2 < s.1 then [s] else (if s.1 < t.1 then [(s.1, t.1 - 1)] else []) ++ (if t.2 < s.2 then [(t.2 + 1, s.2)] else [])
def mst (a : List Sp) (t : Sp) : List Sp := a.flatMap (pc t)
theorem pc_has {s t : Sp} (x : Int) : Has (pc t s) x ↔ (0 ≤ x ∧ s.1 ≤ x ∧ x ≤ s.2) ∧ ¬ (t.1 ≤ x ∧ x ≤ t.2) := by
  unfold pc
  split
  · rw [has_one]; omega
  · rw [has_app]
    have h1 : Has (if s.1 < t.1 then [((s.1, t.1 - 1) : Sp)] else []) x ↔ s.1 < t.1 ∧ 0 ≤ x ∧ s.1 ≤ x ∧ x ≤ t.1 - 1 := by
      split
      · rw [has_one]; simp only; omega
      · rw [has_nil, false_iff]; omega
    have h2 : Has (if t.2 < s.2 then [((t.2 + 1, s.2) : Sp)] else []) x ↔ t.2 < s.2 ∧ 0 ≤ x ∧ t.2 + 1 ≤ x ∧ x ≤ s.2 := by
      split
      · rw [has_one]; simp only; omega
      · rw [has_nil, false_iff]; omega
    rw [h1, h2]
    omega
theorem pc_nrm {s t : Sp} (hs : 0 ≤ s.1 ∧ s.1 ≤ s.2) (ht : 0 ≤ t.1 ∧ t.1 ≤ t.2) : Nrm (pc t s) := by
  unfold pc
  split
  · exact nrm_one hs.1 hs.2
  · refine Nrm.app ?_ ?_ fun u hu v hv => ?_
    · split
      · exact nrm_one hs.1 (by simp only; omega)
      · trivial
    · split
      · exact nrm_one (by simp only; omega) (by simp only; omega)
      · trivial
    · split at hu
      · split at hv
        · obtain rfl : u = (s.1, t.1 - 1) := by simpa using hu
          obtain rfl : v = (t.2 + 1, s.2) := by simpa using hv
          simp only; omega
        · simp at hv
      · simp at hu
theorem mst_ok : ∀ {a : List Sp} {t : Sp}, Nrm a → 0 ≤ t.1 ∧ t.1 ≤ t.2 → Nrm (mst a t) ∧ ∀ x, Has (mst a t) x ↔ Has a x ∧ ¬ (t.1 ≤ x ∧ x ≤ t.2)
  | [], t, _, _ => ⟨trivial, fun x => by unfold mst; simp [has_nil]⟩
  | s :: a, t, h, ht => by
    obtain ⟨i1, i2⟩ := mst_ok h.tail ht
    have hs := h.mem s List.mem_cons_self
    have e : mst (s :: a) t = pc t s ++ mst a t := rfl
    rw [e]
    refine ⟨(pc_nrm hs ht).app i1 fun u hu v hv => ?_, fun x => ?_⟩
    · have h1 := ((pc_has (s := s) (t := t) u.2).1 ((pc_nrm hs ht).hi hu)).1
      have h2 := h.gap ((i2 v.1).1 (i1.lo hv)).1
      omega
    · rw [has_app, i2, pc_has, has_cons]
      generalize Has a x = A
      by_cases A <;> simp [*]
theorem mst_far {a : List Sp} {t : Sp} (h : ∀ s ∈ a, t.2 < s.1) : mst a t = a := by
  unfold mst
  induction a with
  | nil => rfl
  | cons s a ih =>
    rw [List.flatMap_cons, ih fun u hu => h u (List.mem_cons_of_mem _ hu)]
    unfold pc
    rw [if_pos (.inr (h s List.mem_cons_self))]
    rfl
theorem mst_len : ∀ {a : List Sp} (t : Sp), Nrm a → (mst a t).length ≤ a.length + 1
  | [], t, _ => by simp [mst]
  | s :: a, t, h => by
    have e : mst (s :: a) t = pc t s ++ mst a t := rfl
    have ih := mst_len t h.tail
    rw [e, List.length_append, List.length_cons]
    by_cases c : t.2 < s.2
    · rw [mst_far (a := a) fun u hu => by have := h.2.2.1 u hu; omega]
      have : (pc t s).length ≤ 2 := by unfold pc; split <;> (try split) <;> (try split) <;> simp
      omega
    · have : (pc t s).length ≤ 1 := by unfold pc; rw [if_neg c]; split <;> (try split) <;> simp
      omega
theorem mst_top {a : List Sp} {t : Sp} (ha : Nrm a) (hta : Top topN a) (ht : 0 ≤ t.1 ∧ t.1 ≤ t.2) : Top topN (mst a t) := top_of (mst_ok ha ht).1 fun x hx => top_has hta (((mst_ok ha ht).2 x).1 hx).1
/-- What is left after the first k. -/
def msk (a b : List Sp) (k : Nat) : List Sp := (b.take k).foldl mst a
theorem msk_next {a b : List Sp} {k : Nat} {t : Sp} (h : b[k]? = some t) : msk a b (k + 1) = mst (msk a b k) t := by
  unfold msk
  rw [List.take_add_one, h, List.foldl_append]
  rfl
theorem fold_mst : ∀ {b a : List Sp}, Nrm a → Top topN a → Nrm b → Nrm (b.foldl mst a) ∧ Top topN (b.foldl mst a) ∧ (b.foldl mst a).length ≤ a.length + b.length ∧ ∀ x, Has (b.foldl mst a) x ↔ Has a x ∧ ¬ Has b x
  | [], a, ha, hta, _ => ⟨ha, hta, by simp, fun x => by rw [has_nil]; simp⟩
  | t :: b, a, ha, hta, hb => by
    have ht := hb.mem t List.mem_cons_self
    obtain ⟨m1, m2⟩ := mst_ok ha ht
    obtain ⟨i1, i2, i3, i4⟩ := fold_mst (b := b) m1 (mst_top ha hta ht) hb.tail
    have hl := mst_len t ha
    refine ⟨i1, i2, by simp only [List.foldl_cons, List.length_cons]; omega, fun x => ?_⟩
    rw [List.foldl_cons, i4, m2, has_cons, and_assoc]
    refine and_congr_right fun hx => ?_
    have h0 := hx.1
    constructor
    · rintro ⟨h1, h2⟩ (h3 | h3)
      · exact h1 h3.2
      · exact h2 h3
    · exact fun h => ⟨fun h1 => h (.inl ⟨h0, h1⟩), fun h1 => h (.inr h1)⟩
theorem msk_ok {a b : List Sp} (ha : Nrm a) (hta : Top topN a) (hb : Nrm b) (k : Nat) : Nrm (msk a b k) ∧ Top topN (msk a b k) ∧ (msk a b k).length ≤ a.length + b.length := by
  obtain ⟨h1, h2, h3, _⟩ := fold_mst (b := b.take k) ha hta (hb.take k)
  exact ⟨h1, h2, by rw [List.length_take] at h3; unfold msk; omega⟩
theorem msk_end {a b : List Sp} (hta : Top topN a) (htb : Top topN b) : msk (mk a) (mk b) (mk b).length = mi topN a b := by
  obtain ⟨h1, _, _, h4⟩ := fold_mst (b := mk b) (mk_nrm a) (mk_top hta) (mk_nrm b)
  unfold msk
  rw [List.take_length]
  exact uniq h1 (mi_nrm _ _ _) fun x => by rw [h4, mi_has hta htb, mk_has, mk_has]
theorem pc_fits {s t : Sp} (hs : 0 ≤ s.1 ∧ s.1 ≤ s.2 ∧ s.2 < 9223372036854775808) (ht : 0 ≤ t.1 ∧ t.1 ≤ t.2 ∧ t.2 < 9223372036854775808) : wrap64 (t.1 - 1) = t.1 - 1 ∧ (t.2 < s.2 → wrap64 (t.2 + 1) = t.2 + 1) := by unfold wrap64; omega
/-- What is left of the first j. -/
def msj (a : List Sp) (t : Sp) (j : Nat) : List Sp := (a.take j).flatMap (pc t)
theorem msj_next {a : List Sp} {t s : Sp} {j : Nat} (h : a[j]? = some s) : msj a t (j + 1) = msj a t j ++ pc t s := by
  unfold msj
  rw [List.take_add_one, h, List.flatMap_append]
  simp
theorem msj_len {a : List Sp} {t : Sp} (ha : Nrm a) (j : Nat) : (msj a t j).length ≤ a.length + 1 := by
  have h := mst_len t (ha.take j)
  rw [List.length_take] at h
  show (mst (a.take j) t).length ≤ _
  omega
theorem msj_end {a : List Sp} {t : Sp} {j : Nat} (h : j = a.length) : msj a t j = mst a t := by unfold msj mst; rw [h, List.take_length]
theorem pc_1 {s t : Sp} (h : s.2 < t.1 ∨ t.2 < s.1) : pc t s = [s] := by unfold pc; rw [if_pos h]
theorem pc_2 {s t : Sp} (h : ¬ (s.2 < t.1 ∨ t.2 < s.1)) : pc t s = (if s.1 < t.1 then [(s.1, t.1 - 1)] else []) ++ (if t.2 < s.2 then [(t.2 + 1, s.2)] else []) := by unfold pc; rw [if_neg h]
set_option maxRecDepth 20000 in
set_option maxHeartbeats 16000000 in
theorem xminus_to (w : World) (v u : Value) (a b : List Sp) (hv : SSeen w v a) (hu : SSeen w u b) (hll : a.length + b.length ≤ 800000) (hta : Top topN a) (htb : Top topN b) :
    Calls Try.prog 29 #[v, u] w fun e w' => ∃ v', e = .returned v' ∧ SOwn w' w.heap.size v' (mi topN a b) ∧ Below w.heap.size w w' := by
  have HA := Lib.hid (xmake_to w v a hv (by omega) hta)
  have HB := Lib.hid (fun W (h : SSeen W u b) => xmake_to W u b h (by omega) htb)
  have HU := Lib.hid hu
  have HOK := Lib.hid (msk_ok (mk_nrm a) (mk_top hta) (mk_nrm b))
  have HEND := Lib.hid (msk_end hta htb)
  have HNB := Lib.hid (mk_nrm b)
  have HTB := Lib.hid (mk_top htb)
  have HLEN : Hid ((mk a).length + (mk b).length ≤ 800000) := Lib.hid (by have := mk_len a; have := mk_len b; omega)
  obtain ⟨p, cap, rfl⟩ := hv.form
  obtain ⟨p', cap', rfl⟩ := hu.form
  generalize mi topN a b = r at *
  generalize mk a = ma at *
  generalize mk b = mb at *
  clear hv hu hll hta htb
  go_enter Try.func29, Try.ntmps29
  go_wp2_with fail
  refine HA.out.mono ?_
  rintro e w1 ⟨v1, rfl, o1, b1⟩
  have B1 := Lib.hid b1
  have O1 := Lib.hid o1
  clear o1 b1
  go_wp2_with fail
  refine (HB.out w1 (HU.out.kb B1.out)).mono ?_
  rintro e w2 ⟨v2, rfl, o2, b2⟩
  have S2 := Lib.hid o2.seen
  have O1' := Lib.hid (O1.out.kb b2)
  obtain ⟨p2, c2, rfl⟩ := o2.shape
  have B2 := Lib.hid (B1.out.trans (b2.mono B1.out.size))
  clear b2 o2 O1 HA HB HU
  obtain ⟨nb, hnb⟩ : ∃ n, n = mb.length := ⟨_, rfl⟩
  have HNB2 := Lib.hid hnb
  have hmb : nb ≤ 800000 := by have := HLEN.out; omega
  rw [← hnb] at S2 ⊢
  clear hnb
  go_wp2_with fail
  go_loopw [0, 5, 6, 7, 8] (fun z i _ _ _ wr => ∃ k : Nat, k ≤ nb ∧ i = .int .i64 k ∧ Hid (SOwn wr w.heap.size z (msk ma mb k)) ∧ Hid (Below w2.heap.size w2 wr)) (fun _ i _ _ _ _ => nb - (intOf i).toNat)
  case atStart => exact ⟨0, Nat.zero_le _, rfl, O1', Lib.hid (Below.refl _ w2)⟩
  case round =>
    obtain ⟨i, hi, rfl, O, B⟩ := hrel
    obtain ⟨wo, hwo⟩ : ∃ x : World, x = wr := ⟨_, rfl⟩
    subst hwo
    obtain ⟨pa, ca, rfl⟩ := O.out.shape
    by_cases hlt : i < nb
    · have hil : i < mb.length := by rw [← HNB2.out]; exact hlt
      have hi' : (i : Int) < nb := by omega
      obtain ⟨bb, ob, rfl, e1, e2⟩ := S2.out.at hil
      obtain ⟨t, ht⟩ : ∃ t, t = mb[i] := ⟨_, rfl⟩
      have htk : mb[i]? = some t := by rw [ht]; exact List.getElem?_eq_getElem hil
      have HTK := Lib.hid (nrm_at HNB.out HTB.out hil)
      rw [← ht] at e1 e2 HTK
      have HNX := Lib.hid (msk_next (a := ma) htk)
      obtain ⟨hok1, hok2, hok3⟩ := HOK.out i
      have E1 := Lib.hid e1
      have E2 := Lib.hid e2
      have SA := Lib.hid O.out.seen
      clear ht htk e1 e2
      generalize msk ma mb i = L at *
      have HLN := Lib.hid hok1
      have HLT := Lib.hid hok2
      have HLL : Hid (L.length + 1 ≤ 900000) := Lib.hid (by have := HLEN.out; omega)
      obtain ⟨n, hn⟩ : ∃ n, n = L.length := ⟨_, rfl⟩
      have hn9 : n ≤ 900000 := by have := HLL.out; omega
      have HNL := Lib.hid hn
      rw [← hn] at SA ⊢
      clear hok1 hok2 hok3 hn
      go_wp2_with fail
      go_loopw [6, 7, 8] (fun z j _ wr => ∃ k : Nat, k ≤ n ∧ j = .int .i64 k ∧ Hid (SOwn wr wo.heap.size z (msj L t k)) ∧ Hid (Below wo.heap.size wo wr)) (fun _ j _ _ => n - (intOf j).toNat)
      case atStart => exact ⟨0, Nat.zero_le _, rfl, Lib.hid (SOwn.nil wo _), Lib.hid (Below.refl _ wo)⟩
      case round =>
        obtain ⟨k, hk, rfl, OX, BX⟩ := hrel
        obtain ⟨pz, cz, rfl⟩ := OX.out.shape
        by_cases hlt2 : k < n
        · have hkl : k < L.length := by rw [← HNL.out]; exact hlt2
          have hk' : (k : Int) < n := by omega
          obtain ⟨ba, oa, rfl, a1, a2⟩ := (SA.out.kb BX.out).at hkl
          obtain ⟨s, hs⟩ : ∃ s, s = L[k] := ⟨_, rfl⟩
          have hsk : L[k]? = some s := by rw [hs]; exact List.getElem?_eq_getElem hkl
          have HSK := Lib.hid (nrm_at HLN.out HLT.out hkl)
          rw [← hs] at a1 a2 HSK
          have hr := two_range a1 a2
          have HNJ := Lib.hid (msj_next (t := t) hsk)
          have HPL : Hid ((msj L t k).length ≤ 900000) := Lib.hid (Nat.le_trans (msj_len HLN.out k) HLL.out)
          clear hs hsk
          generalize msj L t k = P at *
          have B0' := (Below.refl wr.heap.size wr).alloc (Nat.le_refl _) (.cells #[.int .i64 s.1, .int .i64 s.2] 23)
          have OW := Lib.hid (OX.out.kb B0')
          have BW := Lib.hid (BX.out.trans (B0'.mono BX.out.size))
          have N0 := Lib.hid (heap_alloc_last wr (.cells #[.int .i64 s.1, .int .i64 s.2] 23))
          have HNE : Hid (∀ j, (Value.slice pz P.length cz).ownBlock = some j → wr.heap.size ≠ j) := Lib.hid (fun j hj => by have := (OX.out.lt j hj).2; omega)
          obtain ⟨Bx, hBx⟩ : ∃ Bx, Bx = wr.heap.size := ⟨_, rfl⟩
          have HBX : Hid (Bx < (wr.alloc (.cells #[.int .i64 s.1, .int .i64 s.2] 23)).heap.size) := Lib.hid (by simp; omega)
          go_upto_region 11 with (refine load_to (cs := [.int .i64 s.1, .int .i64 s.2]) hr Try.underlying23 rfl spsize ?hx ?_; (case hx => rfl))
          rw [← hBx] at N0 HNE ⊢
          clear hBx B0' a1 a2 hr OX BX
          generalize wr.alloc (.cells #[.int .i64 s.1, .int .i64 s.2] 23) = W1 at *
          obtain ⟨s1, s2⟩ := sp_cells N0.out
          have HEE := Lib.hid (fun W (h : Below wo.heap.size wo W) => cells2 (B.out.trans (h.mono B.out.size)) E1.out E2.out)
          obtain ⟨t1, t2⟩ := HEE.out W1 BW.out
          obtain ⟨f1, f2⟩ := pc_fits HSK.out HTK.out
          have f1w : IntKind.i64.wrap (t.1 - 1) = t.1 - 1 := by rw [wrap64_eq]; exact f1
          have F2 := Lib.hid f2
          clear f2
          by_cases c1 : s.2 < t.1
          · have d1 : decide (s.2 < t.1) = true := by simpa using c1
            have HPC := Lib.hid (pc_1 (s := s) (t := t) (.inl c1))
            clear c1
            go_quiet (fail)
            have OQ := Lib.hid (OW.out.drn nq)
            have BQ := Lib.hid (below_drn10 BW.out nq)
            have NQ : Hid ((W1.drewN nq).heap[Bx]? = some (.cells #[.int .i64 s.1, .int .i64 s.2] 23 (0, 0))) := Lib.hid N0.out
            have HBQ : Hid (Bx < (W1.drewN nq).heap.size) := Lib.hid HBX.out
            clear s1 s2 t1 t2 OW BW N0 HBX
            generalize W1.drewN nq = W2 at *
            obtain ⟨s1, s2⟩ := sp_cells NQ.out
            obtain ⟨t1, t2⟩ := HEE.out W2 BQ.out
            go_wp2_with (first
              | (at_builtin; refine push_span (by rfl) (.tmp 47) (.tmp 49) (by rfl) s wo.heap.size _ P (by rfl) OQ.out W2.heap.size rfl (by rfl) (by have := HPL.out; omega) BQ.out.size ?_; intro p3 c3 w3 own3 _ _ b3; have O3 := Lib.hid own3; have B3 := Lib.hid (BQ.out.trans b3); clear own3 b3))
            exact ⟨⟨k + 1, by omega, by go_num, Lib.hid (by rw [HNJ.out, HPC.out]; exact O3.out), B3⟩, by simp [intOf]; omega⟩
          · have d1 : decide (s.2 < t.1) = false := by simpa using c1
            by_cases c2 : t.2 < s.1
            · have d2 : decide (s.1 > t.2) = true := by simpa using c2
              have d3 : decide (t.2 < s.1) = true := by simpa using c2
              have HPC := Lib.hid (pc_1 (s := s) (t := t) (.inr c2))
              clear c1 c2
              go_quiet (fail)
              have OQ := Lib.hid (OW.out.drn nq)
              have BQ := Lib.hid (below_drn10 BW.out nq)
              have NQ : Hid ((W1.drewN nq).heap[Bx]? = some (.cells #[.int .i64 s.1, .int .i64 s.2] 23 (0, 0))) := Lib.hid N0.out
              have HBQ : Hid (Bx < (W1.drewN nq).heap.size) := Lib.hid HBX.out
              clear s1 s2 t1 t2 OW BW N0 HBX
              generalize W1.drewN nq = W2 at *
              obtain ⟨s1, s2⟩ := sp_cells NQ.out
              obtain ⟨t1, t2⟩ := HEE.out W2 BQ.out
              go_wp2_with (first
                | (at_builtin; refine push_span (by rfl) (.tmp 47) (.tmp 49) (by rfl) s wo.heap.size _ P (by rfl) OQ.out W2.heap.size rfl (by rfl) (by have := HPL.out; omega) BQ.out.size ?_; intro p3 c3 w3 own3 _ _ b3; have O3 := Lib.hid own3; have B3 := Lib.hid (BQ.out.trans b3); clear own3 b3))
              exact ⟨⟨k + 1, by omega, by go_num, Lib.hid (by rw [HNJ.out, HPC.out]; exact O3.out), B3⟩, by simp [intOf]; omega⟩
            · have d2 : decide (s.1 > t.2) = false := by simpa using c2
              have d3 : decide (t.2 < s.1) = false := by simpa using c2
              have HPC := Lib.hid (pc_2 (s := s) (t := t) (by omega))
              clear c1 c2
              go_quiet (fail)
              have OQ := Lib.hid (OW.out.drn nq)
              have BQ := Lib.hid (below_drn10 BW.out nq)
              have NQ : Hid ((W1.drewN nq).heap[Bx]? = some (.cells #[.int .i64 s.1, .int .i64 s.2] 23 (0, 0))) := Lib.hid N0.out
              have HBQ : Hid (Bx < (W1.drewN nq).heap.size) := Lib.hid HBX.out
              clear s1 s2 t1 t2 OW BW N0 HBX
              generalize W1.drewN nq = W2 at *
              obtain ⟨s1, s2⟩ := sp_cells NQ.out
              obtain ⟨t1, t2⟩ := HEE.out W2 BQ.out
              by_cases cl : s.1 < t.1
              · have dl : decide (s.1 < t.1) = true := by simpa using cl
                rw [if_pos cl] at HPC
                by_cases ch : t.2 < s.2
                · have dh : decide (s.2 > t.2) = true := by simpa using ch
                  have dh2 : decide (t.2 < s.2) = true := by simpa using ch
                  rw [if_pos ch] at HPC
                  have f2 := F2.out ch
                  have f2w : IntKind.i64.wrap (t.2 + 1) = t.2 + 1 := by rw [wrap64_eq]; exact f2
                  clear cl ch
                  go_wp2_with fail
                  go_quiet (fail)
                  have OR := Lib.hid (OQ.out.drn nq)
                  have BR := Lib.hid (below_drn10 BQ.out nq)
                  have NR : Hid ((W2.drewN nq).heap[Bx]? = some (.cells #[.int .i64 s.1, .int .i64 s.2] 23 (0, 0))) := Lib.hid NQ.out
                  have HBR : Hid (Bx < (W2.drewN nq).heap.size) := Lib.hid HBQ.out
                  clear s1 s2 t1 t2 OQ BQ NQ HBQ
                  generalize W2.drewN nq = W3 at *
                  obtain ⟨s1, s2⟩ := sp_cells NR.out
                  obtain ⟨t1, t2⟩ := HEE.out W3 BR.out
                  go_wp2_with fail
                  try simp only [List.append]
                  refine wp_region_noPanic ?_
                  refine wp_region_held_drew (S := (fun W => (W.cell? ⟨Bx, 0, none⟩ = some (.int .i64 s.1) ∧ W.cell? ⟨Bx, 1, none⟩ = some (.int .i64 s.2)) ∧ W.cell? ⟨bb, ob + i * 2, none⟩ = some (.int .i64 t.1) ∧ W.cell? ⟨bb, ob + i * 2 + 1, none⟩ = some (.int .i64 t.2))) (by kernel_rfl) ⟨⟨s1, s2⟩, t1, t2⟩ (fun hHeld => ?_)
                  refine wpAnyH_take (i := 0) (v := ?_) (by simp only [List.getElem?_toArray, List.getElem?_cons_zero]; rfl) (by kernel_rfl) (by kernel_rfl) (by kernel_rfl) (fun _ _ _ h => h) (Or.inl ⟨by rfl, ?_⟩) (by assumption) ?_
                  rotate_left
                  · intro w hSw
                    try dsimp only at hSw
                    go_simp
                    try with_reducible rfl
                  try simp only [Act.put, List.setIfInBounds_toArray, List.set_cons_zero, List.set_cons_succ]
                  refine wpAnyH_take (i := 1) (v := ?_) (by simp only [List.getElem?_toArray, List.getElem?_cons_succ, List.getElem?_cons_zero]; rfl) (by kernel_rfl) (by kernel_rfl) (by kernel_rfl) (fun _ _ _ h => h) (Or.inl ⟨by rfl, ?_⟩) (by assumption) ?_
                  rotate_left
                  · intro w hSw
                    try dsimp only at hSw
                    go_simp
                    try with_reducible rfl
                  try simp only [Act.put, List.setIfInBounds_toArray, List.set_cons_zero, List.set_cons_succ]
                  refine wpAnyH_take (i := 2) (v := ?_) (by simp only [List.getElem?_toArray, List.getElem?_cons_succ, List.getElem?_cons_zero]; rfl) (by kernel_rfl) (by kernel_rfl) (by kernel_rfl) (fun _ _ _ h => h) (Or.inl ⟨by rfl, ?_⟩) (by assumption) ?_
                  rotate_left
                  · intro w hSw
                    try dsimp only at hSw
                    go_simp
                    try with_reducible rfl
                  try simp only [Act.put, List.setIfInBounds_toArray, List.set_cons_zero, List.set_cons_succ]
                  refine wpAnyH_take (i := 3) (v := ?_) (by simp only [List.getElem?_toArray, List.getElem?_cons_succ, List.getElem?_cons_zero]; rfl) (by kernel_rfl) (by kernel_rfl) (by kernel_rfl) (fun _ _ _ h => h) (Or.inl ⟨by rfl, ?_⟩) (by assumption) ?_
                  rotate_left
                  · intro w hSw
                    try dsimp only at hSw
                    go_simp
                    try with_reducible rfl
                  try simp only [Act.put, List.setIfInBounds_toArray, List.set_cons_zero, List.set_cons_succ]
                  refine wpAnyH_take (i := 4) (v := ?_) (by simp only [List.getElem?_toArray, List.getElem?_cons_succ, List.getElem?_cons_zero]; rfl) (by kernel_rfl) (by kernel_rfl) (by kernel_rfl) (fun _ _ _ h => h) (Or.inl ⟨by rfl, ?_⟩) (by assumption) ?_
                  rotate_left
                  · intro w hSw
                    try dsimp only at hSw
                    go_simp
                    try with_reducible rfl
                  try simp only [Act.put, List.setIfInBounds_toArray, List.set_cons_zero, List.set_cons_succ]
                  refine wpAnyH_take (i := 5) (v := ?_) (by simp only [List.getElem?_toArray, List.getElem?_cons_succ, List.getElem?_cons_zero]; rfl) (by kernel_rfl) (by kernel_rfl) (by kernel_rfl) (fun _ _ _ h => h) (Or.inl ⟨by rfl, ?_⟩) (by assumption) ?_
                  rotate_left
                  · intro w hSw
                    try dsimp only at hSw
                    go_simp
                    try with_reducible rfl
                  try simp only [Act.put, List.setIfInBounds_toArray, List.set_cons_zero, List.set_cons_succ]
                  refine wpAnyH_take (i := 6) (v := ?_) (by simp only [List.getElem?_toArray, List.getElem?_cons_succ, List.getElem?_cons_zero]; rfl) (by kernel_rfl) (by kernel_rfl) (by kernel_rfl) (fun _ _ _ h => h) (Or.inl ⟨by rfl, ?_⟩) (by assumption) ?_
                  rotate_left
                  · intro w hSw
                    try dsimp only at hSw
                    go_simp
                    try with_reducible rfl
                  try simp only [Act.put, List.setIfInBounds_toArray, List.set_cons_zero, List.set_cons_succ]
                  refine wpAnyH_take (i := 7) (v := ?_) (by simp only [List.getElem?_toArray, List.getElem?_cons_succ, List.getElem?_cons_zero]; rfl) (by kernel_rfl) (by kernel_rfl) (by kernel_rfl) (fun _ _ _ h => h) (Or.inl ⟨by rfl, ?_⟩) (by assumption) ?_
                  rotate_left
                  · intro w hSw
                    try dsimp only at hSw
                    go_simp
                    try with_reducible rfl
                  try simp only [Act.put, List.setIfInBounds_toArray, List.set_cons_zero, List.set_cons_succ]
                  refine wpAnyH_take (i := 8) (v := (.int .i64 (t.1 - 1))) (by simp only [List.getElem?_toArray, List.getElem?_cons_succ, List.getElem?_cons_zero]; rfl) (by kernel_rfl) (by kernel_rfl) (by kernel_rfl) (fun _ _ _ h => h) (Or.inl ⟨by rfl, ?_⟩) (by assumption) ?_
                  · intro w hSw
                    try dsimp only at hSw
                    go_simp
                  try simp only [Act.put, List.setIfInBounds_toArray, List.set_cons_zero, List.set_cons_succ]
                  refine wpAnyH_take (i := 9) (v := (.agg #[.int .i64 s.1, .int .i64 (t.1 - 1)])) (by simp only [List.getElem?_toArray, List.getElem?_cons_succ, List.getElem?_cons_zero]; rfl) (by kernel_rfl) (by kernel_rfl) (by kernel_rfl) (fun _ _ _ h => h) (Or.inl ⟨by rfl, ?_⟩) (by assumption) ?_
                  · intro w hSw
                    try dsimp only at hSw
                    go_simp
                  try simp only [Act.put, List.setIfInBounds_toArray, List.set_cons_zero, List.set_cons_succ]
                  refine wpAnyH_ready (rs := [10]) (by kernel_rfl) (by simp) ?_
                  refine AllReadyH.cons (by simp only [List.getElem?_toArray, List.getElem?_cons_succ, List.getElem?_cons_zero]; rfl) (fun K hK => ?_) AllReadyH.nil
                  go_simp
                  go_wp2_with fail
                  refine hK.out _ _ (cells4 ((Below.refl _ W3).alloc (Nat.le_refl _) _).drew s1 s2 t1 t2) (fun hHeld => ?_)
                  clear hK K
                  try simp only [Act.put, List.setIfInBounds_toArray, List.set_cons_zero, List.set_cons_succ]
                  refine wpAnyH_ready (rs := [11]) (by kernel_rfl) (by simp) ?_
                  refine AllReadyH.cons (by simp only [List.getElem?_toArray, List.getElem?_cons_succ, List.getElem?_cons_zero]; rfl) (fun K hK => ?_) AllReadyH.nil
                  refine step_push_span (w := W3.drew) (by rfl) (.tmp 59) (.tmp 69) (by rfl) (s.1, t.1 - 1) wo.heap.size _ P (by rfl) (OR.out.drn 1) W3.heap.size rfl (by rfl) (by have := HPL.out; omega) BR.out.size ?_
                  intro p3 c3 w3 own3 on3 at3 b3
                  have O3 := Lib.hid own3
                  have B3 := Lib.hid (BR.out.drew.trans b3)
                  have N3 := Lib.hid ((on3.block Bx HBR.out (fun e => HNE.out _ e rfl)).trans NR.out)
                  have HNE3 : Hid (∀ j, (Value.slice p3 (P.length + 1) c3).ownBlock = some j → Bx ≠ j) := Lib.hid (fun j hj => by
                    rcases at3 j hj with h | h
                    · exact HNE.out j h
                    · have := HBR.out; have h' : W3.heap.size ≤ j := h; omega)
                  clear own3 on3 at3 b3
                  refine hK.out _ _ ⟨sp_cells N3.out, HEE.out w3 B3.out⟩ (fun hHeld => ?_)
                  clear hK K
                  try simp only [Act.put, List.setIfInBounds_toArray, List.set_cons_zero, List.set_cons_succ]
                  refine wpAnyH_take (i := 12) (v := ?_) (by simp only [List.getElem?_toArray, List.getElem?_cons_succ, List.getElem?_cons_zero]; rfl) (by kernel_rfl) (by kernel_rfl) (by kernel_rfl) (fun _ _ _ h => h) (Or.inl ⟨by rfl, ?_⟩) (by assumption) ?_
                  rotate_left
                  · intro w hSw
                    try dsimp only at hSw
                    go_simp
                    try with_reducible rfl
                  try simp only [Act.put, List.setIfInBounds_toArray, List.set_cons_zero, List.set_cons_succ]
                  refine wpAnyH_done (by kernel_rfl) ?_ _
                  refine NoPanic.normal ?_
                  clear s1 s2 t1 t2
                  obtain ⟨s1, s2⟩ := sp_cells N3.out
                  obtain ⟨t1, t2⟩ := HEE.out w3 B3.out
                  go_wp2_with fail
                  go_quiet (fail)
                  have OT := Lib.hid (O3.out.drn nq)
                  have BT := Lib.hid (below_drn10 B3.out nq)
                  have NT : Hid ((w3.drewN nq).heap[Bx]? = some (.cells #[.int .i64 s.1, .int .i64 s.2] 23 (0, 0))) := Lib.hid N3.out
                  clear s1 s2 t1 t2 O3 B3 N3
                  generalize w3.drewN nq = W4 at *
                  obtain ⟨s1, s2⟩ := sp_cells NT.out
                  obtain ⟨t1, t2⟩ := HEE.out W4 BT.out
                  go_wp2_with fail
                  try simp only [List.append]
                  refine wp_region_noPanic ?_
                  refine wp_region_held_drew (S := (fun W => (W.cell? ⟨Bx, 0, none⟩ = some (.int .i64 s.1) ∧ W.cell? ⟨Bx, 1, none⟩ = some (.int .i64 s.2)) ∧ W.cell? ⟨bb, ob + i * 2, none⟩ = some (.int .i64 t.1) ∧ W.cell? ⟨bb, ob + i * 2 + 1, none⟩ = some (.int .i64 t.2))) (by kernel_rfl) ⟨⟨s1, s2⟩, t1, t2⟩ (fun hHeld => ?_)
                  refine wpAnyH_take (i := 0) (v := ?_) (by simp only [List.getElem?_toArray, List.getElem?_cons_zero]; rfl) (by kernel_rfl) (by kernel_rfl) (by kernel_rfl) (fun _ _ _ h => h) (Or.inl ⟨by rfl, ?_⟩) (by assumption) ?_
                  rotate_left
                  · intro w hSw
                    try dsimp only at hSw
                    go_simp
                    try with_reducible rfl
                  try simp only [Act.put, List.setIfInBounds_toArray, List.set_cons_zero, List.set_cons_succ]
                  refine wpAnyH_take (i := 1) (v := ?_) (by simp only [List.getElem?_toArray, List.getElem?_cons_succ, List.getElem?_cons_zero]; rfl) (by kernel_rfl) (by kernel_rfl) (by kernel_rfl) (fun _ _ _ h => h) (Or.inl ⟨by rfl, ?_⟩) (by assumption) ?_
                  rotate_left
                  · intro w hSw
                    try dsimp only at hSw
                    go_simp
                    try with_reducible rfl
                  try simp only [Act.put, List.setIfInBounds_toArray, List.set_cons_zero, List.set_cons_succ]
                  refine wpAnyH_take (i := 2) (v := ?_) (by simp only [List.getElem?_toArray, List.getElem?_cons_succ, List.getElem?_cons_zero]; rfl) (by kernel_rfl) (by kernel_rfl) (by kernel_rfl) (fun _ _ _ h => h) (Or.inl ⟨by rfl, ?_⟩) (by assumption) ?_
                  rotate_left
                  · intro w hSw
                    try dsimp only at hSw
                    go_simp
                    try with_reducible rfl
                  try simp only [Act.put, List.setIfInBounds_toArray, List.set_cons_zero, List.set_cons_succ]
                  refine wpAnyH_take (i := 3) (v := ?_) (by simp only [List.getElem?_toArray, List.getElem?_cons_succ, List.getElem?_cons_zero]; rfl) (by kernel_rfl) (by kernel_rfl) (by kernel_rfl) (fun _ _ _ h => h) (Or.inl ⟨by rfl, ?_⟩) (by assumption) ?_
                  rotate_left
                  · intro w hSw
                    try dsimp only at hSw
                    go_simp
                    try with_reducible rfl
                  try simp only [Act.put, List.setIfInBounds_toArray, List.set_cons_zero, List.set_cons_succ]
                  refine wpAnyH_take (i := 4) (v := ?_) (by simp only [List.getElem?_toArray, List.getElem?_cons_succ, List.getElem?_cons_zero]; rfl) (by kernel_rfl) (by kernel_rfl) (by kernel_rfl) (fun _ _ _ h => h) (Or.inl ⟨by rfl, ?_⟩) (by assumption) ?_
                  rotate_left
                  · intro w hSw
                    try dsimp only at hSw
                    go_simp
                    try with_reducible rfl
                  try simp only [Act.put, List.setIfInBounds_toArray, List.set_cons_zero, List.set_cons_succ]
                  refine wpAnyH_take (i := 5) (v := ?_) (by simp only [List.getElem?_toArray, List.getElem?_cons_succ, List.getElem?_cons_zero]; rfl) (by kernel_rfl) (by kernel_rfl) (by kernel_rfl) (fun _ _ _ h => h) (Or.inl ⟨by rfl, ?_⟩) (by assumption) ?_
                  rotate_left
                  · intro w hSw
                    try dsimp only at hSw
                    go_simp
                    try with_reducible rfl
                  try simp only [Act.put, List.setIfInBounds_toArray, List.set_cons_zero, List.set_cons_succ]
                  refine wpAnyH_take (i := 6) (v := (.int .i64 (t.2 + 1))) (by simp only [List.getElem?_toArray, List.getElem?_cons_succ, List.getElem?_cons_zero]; rfl) (by kernel_rfl) (by kernel_rfl) (by kernel_rfl) (fun _ _ _ h => h) (Or.inl ⟨by rfl, ?_⟩) (by assumption) ?_
                  · intro w hSw
                    try dsimp only at hSw
                    go_simp
                  try simp only [Act.put, List.setIfInBounds_toArray, List.set_cons_zero, List.set_cons_succ]
                  refine wpAnyH_take (i := 7) (v := ?_) (by simp only [List.getElem?_toArray, List.getElem?_cons_succ, List.getElem?_cons_zero]; rfl) (by kernel_rfl) (by kernel_rfl) (by kernel_rfl) (fun _ _ _ h => h) (Or.inl ⟨by rfl, ?_⟩) (by assumption) ?_
                  rotate_left
                  · intro w hSw
                    try dsimp only at hSw
                    go_simp
                    try with_reducible rfl
                  try simp only [Act.put, List.setIfInBounds_toArray, List.set_cons_zero, List.set_cons_succ]
                  refine wpAnyH_take (i := 8) (v := ?_) (by simp only [List.getElem?_toArray, List.getElem?_cons_succ, List.getElem?_cons_zero]; rfl) (by kernel_rfl) (by kernel_rfl) (by kernel_rfl) (fun _ _ _ h => h) (Or.inl ⟨by rfl, ?_⟩) (by assumption) ?_
                  rotate_left
                  · intro w hSw
                    try dsimp only at hSw
                    go_simp
                    try with_reducible rfl
                  try simp only [Act.put, List.setIfInBounds_toArray, List.set_cons_zero, List.set_cons_succ]
                  refine wpAnyH_take (i := 9) (v := (.agg #[.int .i64 (t.2 + 1), .int .i64 s.2])) (by simp only [List.getElem?_toArray, List.getElem?_cons_succ, List.getElem?_cons_zero]; rfl) (by kernel_rfl) (by kernel_rfl) (by kernel_rfl) (fun _ _ _ h => h) (Or.inl ⟨by rfl, ?_⟩) (by assumption) ?_
                  · intro w hSw
                    try dsimp only at hSw
                    go_simp
                  try simp only [Act.put, List.setIfInBounds_toArray, List.set_cons_zero, List.set_cons_succ]
                  refine wpAnyH_ready (rs := [10]) (by kernel_rfl) (by simp) ?_
                  refine AllReadyH.cons (by simp only [List.getElem?_toArray, List.getElem?_cons_succ, List.getElem?_cons_zero]; rfl) (fun K hK => ?_) AllReadyH.nil
                  go_simp
                  go_wp2_with fail
                  refine hK.out _ _ (cells4 ((Below.refl _ W4).alloc (Nat.le_refl _) _).drew s1 s2 t1 t2) (fun hHeld => ?_)
                  clear hK K
                  try simp only [Act.put, List.setIfInBounds_toArray, List.set_cons_zero, List.set_cons_succ]
                  refine wpAnyH_ready (rs := [11]) (by kernel_rfl) (by simp) ?_
                  refine AllReadyH.cons (by simp only [List.getElem?_toArray, List.getElem?_cons_succ, List.getElem?_cons_zero]; rfl) (fun K hK => ?_) AllReadyH.nil
                  refine step_push_span (w := W4.drew) (by rfl) (.tmp 79) (.tmp 89) (by rfl) (t.2 + 1, s.2) wo.heap.size _ (P ++ [(s.1, t.1 - 1)]) (by rfl) (OT.out.drn 1) W4.heap.size rfl (by rfl) (by have := HPL.out; simp; omega) BT.out.size ?_
                  intro p5 c5 w5 own5 on5 _ b5
                  have O5 := Lib.hid own5
                  have B5 := Lib.hid (BT.out.drew.trans b5)
                  have HS5 := Lib.hid (And.intro (cells2 (Below.refl _ W4) s1 s2) (cells2 (Below.refl _ W4) t1 t2))
                  refine hK.out _ _ ⟨sp_cells ((on5.block Bx (Array.getElem?_eq_some_iff.1 NT.out).1 (fun e => HNE3.out _ e rfl)).trans NT.out), HEE.out w5 B5.out⟩ (fun hHeld => ?_)
                  clear own5 on5 b5
                  clear hK K
                  try simp only [Act.put, List.setIfInBounds_toArray, List.set_cons_zero, List.set_cons_succ]
                  refine wpAnyH_take (i := 12) (v := ?_) (by simp only [List.getElem?_toArray, List.getElem?_cons_succ, List.getElem?_cons_zero]; rfl) (by kernel_rfl) (by kernel_rfl) (by kernel_rfl) (fun _ _ _ h => h) (Or.inl ⟨by rfl, ?_⟩) (by assumption) ?_
                  rotate_left
                  · intro w hSw
                    try dsimp only at hSw
                    go_simp
                    try with_reducible rfl
                  try simp only [Act.put, List.setIfInBounds_toArray, List.set_cons_zero, List.set_cons_succ]
                  refine wpAnyH_done (by kernel_rfl) ?_ _
                  refine NoPanic.normal ?_
                  go_wp2_with fail
                  exact ⟨⟨k + 1, by omega, by go_num, Lib.hid (by rw [HNJ.out, HPC.out]; simpa using O5.out), B5⟩, by simp [intOf]; omega⟩
                · have dh : decide (s.2 > t.2) = false := by simpa using ch
                  have dh2 : decide (t.2 < s.2) = false := by simpa using ch
                  rw [if_neg ch] at HPC
                  clear cl ch
                  go_wp2_with fail
                  go_quiet (fail)
                  have OR := Lib.hid (OQ.out.drn nq)
                  have BR := Lib.hid (below_drn10 BQ.out nq)
                  have NR : Hid ((W2.drewN nq).heap[Bx]? = some (.cells #[.int .i64 s.1, .int .i64 s.2] 23 (0, 0))) := Lib.hid NQ.out
                  have HBR : Hid (Bx < (W2.drewN nq).heap.size) := Lib.hid HBQ.out
                  clear s1 s2 t1 t2 OQ BQ NQ HBQ
                  generalize W2.drewN nq = W3 at *
                  obtain ⟨s1, s2⟩ := sp_cells NR.out
                  obtain ⟨t1, t2⟩ := HEE.out W3 BR.out
                  go_wp2_with fail
                  try simp only [List.append]
                  refine wp_region_noPanic ?_
                  refine wp_region_held_drew (S := (fun W => (W.cell? ⟨Bx, 0, none⟩ = some (.int .i64 s.1) ∧ W.cell? ⟨Bx, 1, none⟩ = some (.int .i64 s.2)) ∧ W.cell? ⟨bb, ob + i * 2, none⟩ = some (.int .i64 t.1) ∧ W.cell? ⟨bb, ob + i * 2 + 1, none⟩ = some (.int .i64 t.2))) (by kernel_rfl) ⟨⟨s1, s2⟩, t1, t2⟩ (fun hHeld => ?_)
                  refine wpAnyH_take (i := 0) (v := ?_) (by simp only [List.getElem?_toArray, List.getElem?_cons_zero]; rfl) (by kernel_rfl) (by kernel_rfl) (by kernel_rfl) (fun _ _ _ h => h) (Or.inl ⟨by rfl, ?_⟩) (by assumption) ?_
                  rotate_left
                  · intro w hSw
                    try dsimp only at hSw
                    go_simp
                    try with_reducible rfl
                  try simp only [Act.put, List.setIfInBounds_toArray, List.set_cons_zero, List.set_cons_succ]
                  refine wpAnyH_take (i := 1) (v := ?_) (by simp only [List.getElem?_toArray, List.getElem?_cons_succ, List.getElem?_cons_zero]; rfl) (by kernel_rfl) (by kernel_rfl) (by kernel_rfl) (fun _ _ _ h => h) (Or.inl ⟨by rfl, ?_⟩) (by assumption) ?_
                  rotate_left
                  · intro w hSw
                    try dsimp only at hSw
                    go_simp
                    try with_reducible rfl
                  try simp only [Act.put, List.setIfInBounds_toArray, List.set_cons_zero, List.set_cons_succ]
                  refine wpAnyH_take (i := 2) (v := ?_) (by simp only [List.getElem?_toArray, List.getElem?_cons_succ, List.getElem?_cons_zero]; rfl) (by kernel_rfl) (by kernel_rfl) (by kernel_rfl) (fun _ _ _ h => h) (Or.inl ⟨by rfl, ?_⟩) (by assumption) ?_
                  rotate_left
                  · intro w hSw
                    try dsimp only at hSw
                    go_simp
                    try with_reducible rfl
                  try simp only [Act.put, List.setIfInBounds_toArray, List.set_cons_zero, List.set_cons_succ]
                  refine wpAnyH_take (i := 3) (v := ?_) (by simp only [List.getElem?_toArray, List.getElem?_cons_succ, List.getElem?_cons_zero]; rfl) (by kernel_rfl) (by kernel_rfl) (by kernel_rfl) (fun _ _ _ h => h) (Or.inl ⟨by rfl, ?_⟩) (by assumption) ?_
                  rotate_left
                  · intro w hSw
                    try dsimp only at hSw
                    go_simp
                    try with_reducible rfl
                  try simp only [Act.put, List.setIfInBounds_toArray, List.set_cons_zero, List.set_cons_succ]
                  refine wpAnyH_take (i := 4) (v := ?_) (by simp only [List.getElem?_toArray, List.getElem?_cons_succ, List.getElem?_cons_zero]; rfl) (by kernel_rfl) (by kernel_rfl) (by kernel_rfl) (fun _ _ _ h => h) (Or.inl ⟨by rfl, ?_⟩) (by assumption) ?_
                  rotate_left
                  · intro w hSw
                    try dsimp only at hSw
                    go_simp
                    try with_reducible rfl
                  try simp only [Act.put, List.setIfInBounds_toArray, List.set_cons_zero, List.set_cons_succ]
                  refine wpAnyH_take (i := 5) (v := ?_) (by simp only [List.getElem?_toArray, List.getElem?_cons_succ, List.getElem?_cons_zero]; rfl) (by kernel_rfl) (by kernel_rfl) (by kernel_rfl) (fun _ _ _ h => h) (Or.inl ⟨by rfl, ?_⟩) (by assumption) ?_
                  rotate_left
                  · intro w hSw
                    try dsimp only at hSw
                    go_simp
                    try with_reducible rfl
                  try simp only [Act.put, List.setIfInBounds_toArray, List.set_cons_zero, List.set_cons_succ]
                  refine wpAnyH_take (i := 6) (v := ?_) (by simp only [List.getElem?_toArray, List.getElem?_cons_succ, List.getElem?_cons_zero]; rfl) (by kernel_rfl) (by kernel_rfl) (by kernel_rfl) (fun _ _ _ h => h) (Or.inl ⟨by rfl, ?_⟩) (by assumption) ?_
                  rotate_left
                  · intro w hSw
                    try dsimp only at hSw
                    go_simp
                    try with_reducible rfl
                  try simp only [Act.put, List.setIfInBounds_toArray, List.set_cons_zero, List.set_cons_succ]
                  refine wpAnyH_take (i := 7) (v := ?_) (by simp only [List.getElem?_toArray, List.getElem?_cons_succ, List.getElem?_cons_zero]; rfl) (by kernel_rfl) (by kernel_rfl) (by kernel_rfl) (fun _ _ _ h => h) (Or.inl ⟨by rfl, ?_⟩) (by assumption) ?_
                  rotate_left
                  · intro w hSw
                    try dsimp only at hSw
                    go_simp
                    try with_reducible rfl
                  try simp only [Act.put, List.setIfInBounds_toArray, List.set_cons_zero, List.set_cons_succ]
                  refine wpAnyH_take (i := 8) (v := (.int .i64 (t.1 - 1))) (by simp only [List.getElem?_toArray, List.getElem?_cons_succ, List.getElem?_cons_zero]; rfl) (by kernel_rfl) (by kernel_rfl) (by kernel_rfl) (fun _ _ _ h => h) (Or.inl ⟨by rfl, ?_⟩) (by assumption) ?_
                  · intro w hSw
                    try dsimp only at hSw
                    go_simp
                  try simp only [Act.put, List.setIfInBounds_toArray, List.set_cons_zero, List.set_cons_succ]
                  refine wpAnyH_take (i := 9) (v := (.agg #[.int .i64 s.1, .int .i64 (t.1 - 1)])) (by simp only [List.getElem?_toArray, List.getElem?_cons_succ, List.getElem?_cons_zero]; rfl) (by kernel_rfl) (by kernel_rfl) (by kernel_rfl) (fun _ _ _ h => h) (Or.inl ⟨by rfl, ?_⟩) (by assumption) ?_
                  · intro w hSw
                    try dsimp only at hSw
                    go_simp
                  try simp only [Act.put, List.setIfInBounds_toArray, List.set_cons_zero, List.set_cons_succ]
                  refine wpAnyH_ready (rs := [10]) (by kernel_rfl) (by simp) ?_
                  refine AllReadyH.cons (by simp only [List.getElem?_toArray, List.getElem?_cons_succ, List.getElem?_cons_zero]; rfl) (fun K hK => ?_) AllReadyH.nil
                  go_simp
                  go_wp2_with fail
                  refine hK.out _ _ (cells4 ((Below.refl _ W3).alloc (Nat.le_refl _) _).drew s1 s2 t1 t2) (fun hHeld => ?_)
                  clear hK K
                  try simp only [Act.put, List.setIfInBounds_toArray, List.set_cons_zero, List.set_cons_succ]
                  refine wpAnyH_ready (rs := [11]) (by kernel_rfl) (by simp) ?_
                  refine AllReadyH.cons (by simp only [List.getElem?_toArray, List.getElem?_cons_succ, List.getElem?_cons_zero]; rfl) (fun K hK => ?_) AllReadyH.nil
                  refine step_push_span (w := W3.drew) (by rfl) (.tmp 59) (.tmp 69) (by rfl) (s.1, t.1 - 1) wo.heap.size _ P (by rfl) (OR.out.drn 1) W3.heap.size rfl (by rfl) (by have := HPL.out; omega) BR.out.size ?_
                  intro p3 c3 w3 own3 on3 at3 b3
                  have O3 := Lib.hid own3
                  have B3 := Lib.hid (BR.out.drew.trans b3)
                  have N3 := Lib.hid ((on3.block Bx HBR.out (fun e => HNE.out _ e rfl)).trans NR.out)
                  have HNE3 : Hid (∀ j, (Value.slice p3 (P.length + 1) c3).ownBlock = some j → Bx ≠ j) := Lib.hid (fun j hj => by
                    rcases at3 j hj with h | h
                    · exact HNE.out j h
                    · have := HBR.out; have h' : W3.heap.size ≤ j := h; omega)
                  clear own3 on3 at3 b3
                  refine hK.out _ _ ⟨sp_cells N3.out, HEE.out w3 B3.out⟩ (fun hHeld => ?_)
                  clear hK K
                  try simp only [Act.put, List.setIfInBounds_toArray, List.set_cons_zero, List.set_cons_succ]
                  refine wpAnyH_take (i := 12) (v := ?_) (by simp only [List.getElem?_toArray, List.getElem?_cons_succ, List.getElem?_cons_zero]; rfl) (by kernel_rfl) (by kernel_rfl) (by kernel_rfl) (fun _ _ _ h => h) (Or.inl ⟨by rfl, ?_⟩) (by assumption) ?_
                  rotate_left
                  · intro w hSw
                    try dsimp only at hSw
                    go_simp
                    try with_reducible rfl
                  try simp only [Act.put, List.setIfInBounds_toArray, List.set_cons_zero, List.set_cons_succ]
                  refine wpAnyH_done (by kernel_rfl) ?_ _
                  refine NoPanic.normal ?_
                  clear s1 s2 t1 t2
                  obtain ⟨s1, s2⟩ := sp_cells N3.out
                  obtain ⟨t1, t2⟩ := HEE.out w3 B3.out
                  go_wp2_with fail
                  go_quiet (fail)
                  have OT := Lib.hid (O3.out.drn nq)
                  have BT := Lib.hid (below_drn10 B3.out nq)
                  have NT : Hid ((w3.drewN nq).heap[Bx]? = some (.cells #[.int .i64 s.1, .int .i64 s.2] 23 (0, 0))) := Lib.hid N3.out
                  clear s1 s2 t1 t2 O3 B3 N3
                  generalize w3.drewN nq = W4 at *
                  obtain ⟨s1, s2⟩ := sp_cells NT.out
                  obtain ⟨t1, t2⟩ := HEE.out W4 BT.out
                  go_wp2_with fail
                  exact ⟨⟨k + 1, by omega, by go_num, Lib.hid (by rw [HNJ.out, HPC.out]; simpa using OT.out), BT⟩, by simp [intOf]; omega⟩
              · have dl : decide (s.1 < t.1) = false := by simpa using cl
                rw [if_neg cl] at HPC
                by_cases ch : t.2 < s.2
                · have dh : decide (s.2 > t.2) = true := by simpa using ch
                  have dh2 : decide (t.2 < s.2) = true := by simpa using ch
                  rw [if_pos ch] at HPC
                  have f2 := F2.out ch
                  have f2w : IntKind.i64.wrap (t.2 + 1) = t.2 + 1 := by rw [wrap64_eq]; exact f2
                  clear cl ch
                  go_wp2_with fail
                  go_quiet (fail)
                  have OR := Lib.hid (OQ.out.drn nq)
                  have BR := Lib.hid (below_drn10 BQ.out nq)
                  have NR : Hid ((W2.drewN nq).heap[Bx]? = some (.cells #[.int .i64 s.1, .int .i64 s.2] 23 (0, 0))) := Lib.hid NQ.out
                  have HBR : Hid (Bx < (W2.drewN nq).heap.size) := Lib.hid HBQ.out
                  clear s1 s2 t1 t2 OQ BQ NQ HBQ
                  generalize W2.drewN nq = W3 at *
                  obtain ⟨s1, s2⟩ := sp_cells NR.out
                  obtain ⟨t1, t2⟩ := HEE.out W3 BR.out
                  go_wp2_with fail
                  go_quiet (fail)
                  have HNE3 := Lib.hid HNE.out
                  have OT := Lib.hid (OR.out.drn nq)
                  have BT := Lib.hid (below_drn10 BR.out nq)
                  have NT : Hid ((W3.drewN nq).heap[Bx]? = some (.cells #[.int .i64 s.1, .int .i64 s.2] 23 (0, 0))) := Lib.hid NR.out
                  clear s1 s2 t1 t2 OR BR NR
                  generalize W3.drewN nq = W4 at *
                  obtain ⟨s1, s2⟩ := sp_cells NT.out
                  obtain ⟨t1, t2⟩ := HEE.out W4 BT.out
                  go_wp2_with fail
                  try simp only [List.append]
                  refine wp_region_noPanic ?_
                  refine wp_region_held_drew (S := (fun W => (W.cell? ⟨Bx, 0, none⟩ = some (.int .i64 s.1) ∧ W.cell? ⟨Bx, 1, none⟩ = some (.int .i64 s.2)) ∧ W.cell? ⟨bb, ob + i * 2, none⟩ = some (.int .i64 t.1) ∧ W.cell? ⟨bb, ob + i * 2 + 1, none⟩ = some (.int .i64 t.2))) (by kernel_rfl) ⟨⟨s1, s2⟩, t1, t2⟩ (fun hHeld => ?_)
                  refine wpAnyH_take (i := 0) (v := ?_) (by simp only [List.getElem?_toArray, List.getElem?_cons_zero]; rfl) (by kernel_rfl) (by kernel_rfl) (by kernel_rfl) (fun _ _ _ h => h) (Or.inl ⟨by rfl, ?_⟩) (by assumption) ?_
                  rotate_left
                  · intro w hSw
                    try dsimp only at hSw
                    go_simp
                    try with_reducible rfl
                  try simp only [Act.put, List.setIfInBounds_toArray, List.set_cons_zero, List.set_cons_succ]
                  refine wpAnyH_take (i := 1) (v := ?_) (by simp only [List.getElem?_toArray, List.getElem?_cons_succ, List.getElem?_cons_zero]; rfl) (by kernel_rfl) (by kernel_rfl) (by kernel_rfl) (fun _ _ _ h => h) (Or.inl ⟨by rfl, ?_⟩) (by assumption) ?_
                  rotate_left
                  · intro w hSw
                    try dsimp only at hSw
                    go_simp
                    try with_reducible rfl
                  try simp only [Act.put, List.setIfInBounds_toArray, List.set_cons_zero, List.set_cons_succ]
                  refine wpAnyH_take (i := 2) (v := ?_) (by simp only [List.getElem?_toArray, List.getElem?_cons_succ, List.getElem?_cons_zero]; rfl) (by kernel_rfl) (by kernel_rfl) (by kernel_rfl) (fun _ _ _ h => h) (Or.inl ⟨by rfl, ?_⟩) (by assumption) ?_
                  rotate_left
                  · intro w hSw
                    try dsimp only at hSw
                    go_simp
                    try with_reducible rfl
                  try simp only [Act.put, List.setIfInBounds_toArray, List.set_cons_zero, List.set_cons_succ]
                  refine wpAnyH_take (i := 3) (v := ?_) (by simp only [List.getElem?_toArray, List.getElem?_cons_succ, List.getElem?_cons_zero]; rfl) (by kernel_rfl) (by kernel_rfl) (by kernel_rfl) (fun _ _ _ h => h) (Or.inl ⟨by rfl, ?_⟩) (by assumption) ?_
                  rotate_left
                  · intro w hSw
                    try dsimp only at hSw
                    go_simp
                    try with_reducible rfl
                  try simp only [Act.put, List.setIfInBounds_toArray, List.set_cons_zero, List.set_cons_succ]
                  refine wpAnyH_take (i := 4) (v := ?_) (by simp only [List.getElem?_toArray, List.getElem?_cons_succ, List.getElem?_cons_zero]; rfl) (by kernel_rfl) (by kernel_rfl) (by kernel_rfl) (fun _ _ _ h => h) (Or.inl ⟨by rfl, ?_⟩) (by assumption) ?_
                  rotate_left
                  · intro w hSw
                    try dsimp only at hSw
                    go_simp
                    try with_reducible rfl
                  try simp only [Act.put, List.setIfInBounds_toArray, List.set_cons_zero, List.set_cons_succ]
                  refine wpAnyH_take (i := 5) (v := ?_) (by simp only [List.getElem?_toArray, List.getElem?_cons_succ, List.getElem?_cons_zero]; rfl) (by kernel_rfl) (by kernel_rfl) (by kernel_rfl) (fun _ _ _ h => h) (Or.inl ⟨by rfl, ?_⟩) (by assumption) ?_
                  rotate_left
                  · intro w hSw
                    try dsimp only at hSw
                    go_simp
                    try with_reducible rfl
                  try simp only [Act.put, List.setIfInBounds_toArray, List.set_cons_zero, List.set_cons_succ]
                  refine wpAnyH_take (i := 6) (v := (.int .i64 (t.2 + 1))) (by simp only [List.getElem?_toArray, List.getElem?_cons_succ, List.getElem?_cons_zero]; rfl) (by kernel_rfl) (by kernel_rfl) (by kernel_rfl) (fun _ _ _ h => h) (Or.inl ⟨by rfl, ?_⟩) (by assumption) ?_
                  · intro w hSw
                    try dsimp only at hSw
                    go_simp
                  try simp only [Act.put, List.setIfInBounds_toArray, List.set_cons_zero, List.set_cons_succ]
                  refine wpAnyH_take (i := 7) (v := ?_) (by simp only [List.getElem?_toArray, List.getElem?_cons_succ, List.getElem?_cons_zero]; rfl) (by kernel_rfl) (by kernel_rfl) (by kernel_rfl) (fun _ _ _ h => h) (Or.inl ⟨by rfl, ?_⟩) (by assumption) ?_
                  rotate_left
                  · intro w hSw
                    try dsimp only at hSw
                    go_simp
                    try with_reducible rfl
                  try simp only [Act.put, List.setIfInBounds_toArray, List.set_cons_zero, List.set_cons_succ]
                  refine wpAnyH_take (i := 8) (v := ?_) (by simp only [List.getElem?_toArray, List.getElem?_cons_succ, List.getElem?_cons_zero]; rfl) (by kernel_rfl) (by kernel_rfl) (by kernel_rfl) (fun _ _ _ h => h) (Or.inl ⟨by rfl, ?_⟩) (by assumption) ?_
                  rotate_left
                  · intro w hSw
                    try dsimp only at hSw
                    go_simp
                    try with_reducible rfl
                  try simp only [Act.put, List.setIfInBounds_toArray, List.set_cons_zero, List.set_cons_succ]
                  refine wpAnyH_take (i := 9) (v := (.agg #[.int .i64 (t.2 + 1), .int .i64 s.2])) (by simp only [List.getElem?_toArray, List.getElem?_cons_succ, List.getElem?_cons_zero]; rfl) (by kernel_rfl) (by kernel_rfl) (by kernel_rfl) (fun _ _ _ h => h) (Or.inl ⟨by rfl, ?_⟩) (by assumption) ?_
                  · intro w hSw
                    try dsimp only at hSw
                    go_simp
                  try simp only [Act.put, List.setIfInBounds_toArray, List.set_cons_zero, List.set_cons_succ]
                  refine wpAnyH_ready (rs := [10]) (by kernel_rfl) (by simp) ?_
                  refine AllReadyH.cons (by simp only [List.getElem?_toArray, List.getElem?_cons_succ, List.getElem?_cons_zero]; rfl) (fun K hK => ?_) AllReadyH.nil
                  go_simp
                  go_wp2_with fail
                  refine hK.out _ _ (cells4 ((Below.refl _ W4).alloc (Nat.le_refl _) _).drew s1 s2 t1 t2) (fun hHeld => ?_)
                  clear hK K
                  try simp only [Act.put, List.setIfInBounds_toArray, List.set_cons_zero, List.set_cons_succ]
                  refine wpAnyH_ready (rs := [11]) (by kernel_rfl) (by simp) ?_
                  refine AllReadyH.cons (by simp only [List.getElem?_toArray, List.getElem?_cons_succ, List.getElem?_cons_zero]; rfl) (fun K hK => ?_) AllReadyH.nil
                  refine step_push_span (w := W4.drew) (by rfl) (.tmp 79) (.tmp 89) (by rfl) (t.2 + 1, s.2) wo.heap.size _ P (by rfl) (OT.out.drn 1) W4.heap.size rfl (by rfl) (by have := HPL.out; simp; omega) BT.out.size ?_
                  intro p5 c5 w5 own5 on5 _ b5
                  have O5 := Lib.hid own5
                  have B5 := Lib.hid (BT.out.drew.trans b5)
                  have HS5 := Lib.hid (And.intro (cells2 (Below.refl _ W4) s1 s2) (cells2 (Below.refl _ W4) t1 t2))
                  refine hK.out _ _ ⟨sp_cells ((on5.block Bx (Array.getElem?_eq_some_iff.1 NT.out).1 (fun e => HNE3.out _ e rfl)).trans NT.out), HEE.out w5 B5.out⟩ (fun hHeld => ?_)
                  clear own5 on5 b5
                  clear hK K
                  try simp only [Act.put, List.setIfInBounds_toArray, List.set_cons_zero, List.set_cons_succ]
                  refine wpAnyH_take (i := 12) (v := ?_) (by simp only [List.getElem?_toArray, List.getElem?_cons_succ, List.getElem?_cons_zero]; rfl) (by kernel_rfl) (by kernel_rfl) (by kernel_rfl) (fun _ _ _ h => h) (Or.inl ⟨by rfl, ?_⟩) (by assumption) ?_
                  rotate_left
                  · intro w hSw
                    try dsimp only at hSw
                    go_simp
                    try with_reducible rfl
                  try simp only [Act.put, List.setIfInBounds_toArray, List.set_cons_zero, List.set_cons_succ]
                  refine wpAnyH_done (by kernel_rfl) ?_ _
                  refine NoPanic.normal ?_
                  go_wp2_with fail
                  exact ⟨⟨k + 1, by omega, by go_num, Lib.hid (by rw [HNJ.out, HPC.out]; simpa using O5.out), B5⟩, by simp [intOf]; omega⟩
                · have dh : decide (s.2 > t.2) = false := by simpa using ch
                  have dh2 : decide (t.2 < s.2) = false := by simpa using ch
                  rw [if_neg ch] at HPC
                  clear cl ch
                  go_wp2_with fail
                  go_quiet (fail)
                  have OR := Lib.hid (OQ.out.drn nq)
                  have BR := Lib.hid (below_drn10 BQ.out nq)
                  have NR : Hid ((W2.drewN nq).heap[Bx]? = some (.cells #[.int .i64 s.1, .int .i64 s.2] 23 (0, 0))) := Lib.hid NQ.out
                  have HBR : Hid (Bx < (W2.drewN nq).heap.size) := Lib.hid HBQ.out
                  clear s1 s2 t1 t2 OQ BQ NQ HBQ
                  generalize W2.drewN nq = W3 at *
                  obtain ⟨s1, s2⟩ := sp_cells NR.out
                  obtain ⟨t1, t2⟩ := HEE.out W3 BR.out
                  go_wp2_with fail
                  go_quiet (fail)
                  have HNE3 := Lib.hid HNE.out
                  have OT := Lib.hid (OR.out.drn nq)
                  have BT := Lib.hid (below_drn10 BR.out nq)
                  have NT : Hid ((W3.drewN nq).heap[Bx]? = some (.cells #[.int .i64 s.1, .int .i64 s.2] 23 (0, 0))) := Lib.hid NR.out
                  clear s1 s2 t1 t2 OR BR NR
                  generalize W3.drewN nq = W4 at *
                  obtain ⟨s1, s2⟩ := sp_cells NT.out
                  obtain ⟨t1, t2⟩ := HEE.out W4 BT.out
                  go_wp2_with fail
                  exact ⟨⟨k + 1, by omega, by go_num, Lib.hid (by rw [HNJ.out, HPC.out]; simpa using OT.out), BT⟩, by simp [intOf]; omega⟩
        · obtain rfl : k = n := by omega
          have HE : Hid (msj L t k = msk ma mb (i + 1)) := Lib.hid (by rw [HNX.out]; exact msj_end HNL.out)
          have O4 : Hid (SOwn wr w.heap.size (.slice pz (msj L t k).length cz) (msk ma mb (i + 1))) := Lib.hid (by have h := OX.out.mono (Nat.le_trans B2.out.size B.out.size); rw [HE.out] at h ⊢; exact h)
          have B4 := Lib.hid (B.out.trans (BX.out.mono B.out.size))
          go_wp2_with fail
          exact ⟨⟨i + 1, by omega, by go_num, O4, B4⟩, by simp [intOf]; omega⟩
    · obtain rfl : i = nb := by omega
      have O4 : Hid (SOwn wo w.heap.size (.slice pa (msk ma mb i).length ca) r) := Lib.hid (by have h := O.out; rw [HNB2.out] at h ⊢; rw [HEND.out] at h ⊢; exact h)
      go_wp2_with fail
      go_ret
      exact ⟨_, rfl, O4.out, B2.out.trans (B.out.mono B2.out.size)⟩
end Go.Proofs.Ytpjfgkjhhmfhkaa
