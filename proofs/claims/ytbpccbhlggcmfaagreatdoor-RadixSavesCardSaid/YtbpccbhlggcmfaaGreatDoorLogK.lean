/- Open. Conditions: the numbers are no greater than a program's may be; the file's bytes are bytes. · A log of the caller's own; the chapter's example returns true. No condition. -/
import Derived.Test.YtbpccbhlggcmfaaGreatDoorLogC
import Derived.Test.YtbpccbhlggcmfaaGreatDoorDskK
import Derived.Test.YtbpccbhlggcmfaaGreatDoorDskE
import Derived.Test.YtbpccbhlggcmfaaGreatDoorDskS
import Derived.Test.YtbpccbhlggcmfaaGreatDoorDskRn
namespace Go.Proofs.YtbpccbhlggcmfaaGreatDoor
open Go.RowKit
open Go.Maps

/-- The file as Read tells it. -/
def St.rd (s : St) (nm : Key) : List Int := if s.dead = true then [] else fbytes nm s.files
def openS (s : St) (nm : Key) (n : Int) : Int × St × List Rc :=
  if n < 0 then (1, s, []) else if ((s.rd nm).length : Int) < n then (3, s, []) else
  if ¬ (dec ((s.rd nm).take n.toNat)).2 = 0 then ((dec ((s.rd nm).take n.toNat)).2, s, []) else
  if n < (s.rd nm).length then (if (s.truncate nm n).1 = 0 then (0, (s.truncate nm n).2, (dec ((s.rd nm).take n.toNat)).1) else ((s.truncate nm n).1, (s.truncate nm n).2, [])) else (0, s, (dec ((s.rd nm).take n.toNat)).1)
/-- The text "log". -/
abbrev slog : ByteArray := ⟨#[108, 111, 103]⟩
/-- An error of number c: itself, or in a Step "log". -/
def OpErr (w : World) (B : Nat) (c : Int) (v : Value) : Prop := v = eno c ∨ ∃ g, v = .iface 113 (.pointer (some ⟨g, 0, none⟩)) ∧ B ≤ g ∧ w.heap[g]? = some (.cells #[.string slog, eno c] 115 (0, 0))
def OpenPost (w : World) (B d : Nat) (S0 : Nat → Prop) (nm : Key) (r : Int × St × List Rc) (e : Ending) (w' : World) : Prop :=
  if r.1 = 0 then ∃ l S', e = .returned (.tuple #[.pointer (some ⟨l, 0, none⟩), .nilIface]) ∧ DL w' B d l S' r.2.1 nm r.2.2 ∧ Only S0 w w' ∧ ∀ k, S' k → S0 k ∨ w.heap.size ≤ k
  else ∃ v, e = .returned (.tuple #[.pointer none, v]) ∧ OpErr w' w.heap.size r.1 v ∧ DPost w B d S0 r.2.1 w'
theorem owrap_to (w : World) (c : Int) : Calls Tryz.prog 25 #[.string slog, eno c] w fun e w' => e = .returned (.iface 113 (.pointer (some ⟨w.heap.size, 0, none⟩))) ∧ w' = w.alloc (.cells #[.string slog, eno c] 115) := by
  have hn : ∀ w : World, (binOp .eql 28 (eno c) .nilIface).run Tryz.prog w = .ok (.bool false) w := fun w => by kernel_rfl
  go_enter Tryz.func25, Tryz.ntmps25
  go_wp2
  go_ret
  exact ⟨rfl, rfl⟩
theorem slice_upto {w : World} {p : Option Addr} {n cap : Nat} {j : Nat} (h : j ≤ n) (hc : n ≤ cap) (hp : p = none → n = 0 ∧ cap = 0) :
    (Instr.slice 71 (.slice p n cap) none (some (.int .i64 j)) none).run Tryz.prog w = .ok (.slice p j cap) w := by
  cases p with
  | none =>
    obtain ⟨rfl, rfl⟩ := hp rfl
    obtain rfl : j = 0 := by omega
    simp [Instr.slice, run_underlying Tryz.underlying71, go_sem]
  | some a => 
    have hj : (j : Int) ≤ cap := by omega
    simp [Instr.slice, run_underlying Tryz.underlying71, go_sem, hj]
theorem DS.flen {w : World} {B b : Nat} {S : Nat → Prop} {s : St} (h : DS w B b S s) (nm : Key) : (fbytes nm s.files).length ≤ 16777216 := by
  obtain ⟨c, L, P, hx⟩ := h
  have h1 := bytesAt_le nm L
  have h2 := hx.hist.last.tot
  rw [← hx.fb, fb_tot] at h2
  have h3 : s.files = fb L := hx.fb.symm
  rw [h3, fb_bytes]
  omega
theorem DS.base {w : World} {B b : Nat} {S : Nat → Prop} {s : St} (h : DS w B b S s) : B ≤ w.heap.size := by
  obtain ⟨c, L, P, hx⟩ := h
  exact hx.dc.base
theorem DS.slt {w : World} {B b : Nat} {S : Nat → Prop} {s : St} (h : DS w B b S s) : ∀ k, S k → k < w.heap.size := by
  obtain ⟨c, L, P, h⟩ := h
  exact h.lt
/-- The log that Open makes. -/
theorem open_end {w w3 w4 w5 : World} {B d : Nat} {S0 Sd : Nat → Prop} {s s' : St} {nm : Key} {rv : Value} {E : List Re} (h : DS w B d S0 s) (hd : DS w4 B d Sd s') (hra : RAt w3 w.heap.size rv E) (h3 : Below w.heap.size w w3) (o34 : Only S0 w3 w4) (hs : ∀ k, Sd k → S0 k ∨ w3.heap.size ≤ k) (b5 : Below w4.heap.size w4 w5) :
    ∃ S', DL (w5.alloc (.cells #[.pointer (some ⟨d, 0, none⟩), stv nm, rv] 81)) B d w5.heap.size S' s' nm (rcs E) ∧ Only S0 w (w5.alloc (.cells #[.pointer (some ⟨d, 0, none⟩), stv nm, rv] 81)) ∧ ∀ k, S' k → S0 k ∨ w.heap.size ≤ k := by
  have hB := h.base
  have h0 := h.slt
  have z3 := h3.size
  have z4 := o34.size
  have z5 := b5.size
  have b6 : Below w4.heap.size w4 (w5.alloc (.cells #[.pointer (some ⟨d, 0, none⟩), stv nm, rv] 81)) := b5.alloc z5 _
  have hz : (w5.alloc (.cells #[.pointer (some ⟨d, 0, none⟩), stv nm, rv] 81)).heap.size = w5.heap.size + 1 := by simp
  have hr4 := hra.kept o34 (fun k hk e => by
    have h1 := h0 k e
    rcases hk with hk | ⟨x, hx, hk⟩
    · have := (hra.row.lt k hk).1; omega
    · have := ((hra.bod x hx).lt k hk).1; omega)
  have hr6 := hr4.kept (T := fun _ => False) (Only.of_below b6) (fun _ _ h => h)
  have hlf : ∀ k, (rv.ownBlock = some k ∨ ∃ e ∈ E, e.1.ownBlock = some k) → w.heap.size ≤ k ∧ k < w3.heap.size := by
    rintro k (hk | ⟨x, hx, hk⟩)
    · exact hra.row.lt k hk
    · exact (hra.bod x hx).lt k hk
  refine ⟨fun k => Sd k ∨ LF w5.heap.size rv E k, ⟨Sd, rv, E, {
    ds := hd.kb b6
    log := ⟨heap_alloc_new w5 _, hr6.mono hB, by omega⟩
    out := ?_
    s0 := fun k hk => .inl hk
    sl := fun k hk => .inr hk
    lt := ?_ }, rfl⟩, ?_, ?_⟩
  · rintro k (rfl | hk) hk2
    · have := hd.slt _ hk2; omega
    · have h1 := hlf k hk
      rcases hs k hk2 with e | e
      · have := h0 k e; omega
      · omega
  · rw [hz]
    rintro k (hk | rfl | hk)
    · have := hd.slt k hk; omega
    · omega
    · have := hlf k hk; omega
  · have a1 : Only S0 w w3 := Only.of_below h3
    have a2 : Only S0 w w4 := a1.trans o34 (fun _ h => h) (fun _ _ h => h)
    exact a2.trans (Only.of_below b6 (S := fun _ => False)) (fun _ h => h) (fun _ _ h => h.elim)
  · rintro k (hk | rfl | hk)
    · exact (hs k hk).imp id (fun e => by omega)
    · exact .inr (by omega)
    · exact .inr (hlf k hk).1
set_option maxRecDepth 20000 in
set_option maxHeartbeats 4000000 in
theorem open_to (w : World) (B d : Nat) (S0 : Nat → Prop) (s : St) (nm : Key) (n : Int) (h : DS w B d S0 s) (hw : s.works ≤ 900000000) (hfu : s.fuse < 9223372036854775808) (hnm : nm.length ≤ 281474976710656) (ok : Okb (fbytes nm s.files)) :
    Calls Tryz.prog 8 #[.pointer (some ⟨d, 0, none⟩), stv nm, .int .i64 n] w (OpenPost w B d S0 nm (openS s nm n)) := by
  have H := Lib.hid h
  by_cases hn : n < 0
  · have HO : Hid (openS s nm n = (1, s, [])) := Lib.hid (by unfold openS; rw [if_pos hn])
    clear h ok
    go_enter Tryz.func8, Tryz.ntmps8
    go_wp2
    go_ret2
    unfold OpenPost
    rw [HO.out, if_neg (by simp)]
    exact ⟨_, rfl, .inl rfl, DPost.same H.out (Below.refl _ _)⟩
  obtain ⟨m, rfl⟩ : ∃ m : Nat, n = m := ⟨n.toNat, by omega⟩
  have HRD := Lib.hid (read_to w B d S0 s nm h (Nat.le_trans hnm (by decide)))
  have hl : (s.rd nm).length ≤ 16777216 := by unfold St.rd; split; exact Nat.zero_le _; exact h.flen nm
  have HOK : Hid (Okb (s.rd nm)) := Lib.hid (by unfold St.rd; split; exact Okb.nil; exact ok)
  obtain ⟨l, hle⟩ : ∃ l, l = s.rd nm := ⟨_, rfl⟩
  have HL := Lib.hid hle
  rw [← hle] at hl HOK
  have HO : Hid (openS s nm m = if (l.length : Int) < m then (3, s, []) else if ¬ (dec (l.take m)).2 = 0 then ((dec (l.take m)).2, s, []) else if (m : Int) < l.length then (if (s.truncate nm m).1 = 0 then (0, (s.truncate nm m).2, (dec (l.take m)).1) else ((s.truncate nm m).1, (s.truncate nm m).2, [])) else (0, s, (dec (l.take m)).1)) := Lib.hid (by unfold openS; rw [if_neg hn, ← hle, Int.toNat_natCast])
  clear h ok hle
  go_enter Tryz.func8, Tryz.ntmps8
  go_wp2_with fail
  refine HRD.out.mono ?_
  rintro e w1 ⟨v, rfl, ov, b1⟩
  have OV : Hid (BOwn w1 w.heap.size v l) := Lib.hid (by rw [HL.out]; exact ov)
  have B1 := Lib.hid b1
  clear ov b1 HRD
  obtain ⟨p, cap, rfl⟩ := own_slice OV.out
  have hcp : l.length ≤ cap ∧ (p = none → l.length = 0 ∧ cap = 0) := by
    rcases OV.out.2 with ⟨h1, h2⟩ | ⟨g, cap', cur, h1, _, _, h3, _⟩
    · injection h1 with e1 e2 e3
      exact ⟨by omega, fun _ => ⟨h2, e3⟩⟩
    · injection h1 with e1 e2 e3
      subst e1 e3
      exact ⟨h3, fun h => by cases h⟩
  obtain ⟨q, hq⟩ : ∃ q, q = l.length := ⟨_, rfl⟩
  have HQ := Lib.hid hq
  rw [← hq] at hcp hl HO ⊢
  generalize (if s.dead = true then false else (aget nm s.files).isSome) = ex
  by_cases hs : (q : Int) < m
  · rw [if_pos hs] at HO
    clear hq hcp
    go_wp2_with fail
    go_ret2
    unfold OpenPost
    rw [HO.out, if_neg (by simp)]
    exact ⟨_, rfl, .inl rfl, DPost.same H.out B1.out⟩
  rw [if_neg hs] at HO
  have hmq : m ≤ q := by omega
  have hsl := fun W : World => slice_upto (w := W) (p := p) (n := q) (cap := cap) hmq hcp.1 hcp.2
  have hvs : SeenR w1 (.slice p m cap) (l.take m) := by
    cases p with
    | none =>
      obtain ⟨h1, rfl⟩ := hcp.2 rfl
      obtain rfl : m = 0 := by omega
      exact .inl ⟨rfl, rfl⟩
    | some a =>
      have h1 := SeenR.own OV.out
      rw [← hq] at h1
      rcases OV.out.2 with ⟨h2, _⟩ | ⟨g, cap', cur, h2, _⟩
      · cases h2
      · cases h2
        rw [hq] at h1
        exact seen_len h1 m cap (by omega) (by omega)
  have HD := Lib.hid (decode_to w1 _ (l.take m) (HOK.out.take m) (by rw [List.length_take]; omega) hvs)
  clear hq hcp hvs
  go_wp2_with fail
  refine HD.out.mono ?_
  rintro e w2 ⟨rv, E, rfl, ra, hE, b2⟩
  have RA : Hid (RAt w2 w.heap.size rv E) := Lib.hid (ra.mono B1.out.size)
  have B2 := Lib.hid (B1.out.trans (b2.mono B1.out.size))
  have HE := Lib.hid hE
  clear ra hE b2 HD
  obtain ⟨pr, cr, rfl⟩ := RA.out.slice
  obtain ⟨c, hc⟩ : ∃ c, c = (dec (l.take m)).2 := ⟨_, rfl⟩
  rw [← hc] at HO ⊢
  clear hc
  by_cases hc0 : c = 0
  case' neg =>
    rw [if_pos hc0] at HO
    rw [errOf_nz hc0]
    have HC0 := Lib.hid hc0
    clear hc0 hsl
    go_wp2_with fail
    refine (owrap_to w2 c).mono ?_
    rintro e w3 ⟨rfl, rfl⟩
    go_wp2_with fail
    go_ret2
    unfold OpenPost
    rw [HO.out, if_neg HC0.out]
    exact ⟨_, rfl, .inr ⟨w2.heap.size, rfl, B2.out.size, heap_alloc_new w2 _⟩, DPost.same H.out (B2.out.alloc B2.out.size _)⟩
  case' pos =>
    subst hc0
    rw [if_neg (by simp)] at HO
    rw [show errOf 0 = .nilIface from rfl]
    clear hsl
    by_cases hlt : (m : Int) < q
    case' neg =>
      rw [if_neg hlt] at HO
      go_wp2_with fail
      refine (sclone_to w2 ⟨nm.toArray⟩ hnm).mono ?_
      rintro e w3 ⟨rfl, b3⟩
      have B3 := Lib.hid b3
      clear b3
      go_wp2_with fail
      go_ret2
      unfold OpenPost
      rw [HO.out, if_pos rfl]
      obtain ⟨S', h1, h2, h3⟩ := open_end (nm := nm) H.out (H.out.kb B2.out) RA.out B2.out (Only.refl _ _) (fun _ h => .inl h) B3.out
      exact ⟨w3.heap.size, S', rfl, by rw [← HE.out]; exact h1, h2, h3⟩
    case' pos =>
      rw [if_pos hlt] at HO
      have HT := Lib.hid (truncate_to w2 B d S0 s nm m (H.out.kb B2.out) hw hfu hnm)
      go_wp2_with fail
      refine HT.out.mono ?_
      rintro e w3 ⟨rfl, Sd, d3, o3, s3⟩
      have D3 := Lib.hid d3
      have O3 := Lib.hid o3
      have S3 := Lib.hid s3
      clear d3 o3 s3 HT
      obtain ⟨t, ht⟩ : ∃ t, t = s.truncate nm m := ⟨_, rfl⟩
      rw [← ht] at HO D3 ⊢
      clear ht
      by_cases ht0 : t.1 = 0
      case' neg =>
        rw [if_neg ht0] at HO
        rw [enoOf_nz ht0]
        have HT0 := Lib.hid ht0
        clear ht0
        go_wp2_with fail
        go_ret2
        unfold OpenPost
        rw [HO.out, if_neg HT0.out]
        exact ⟨_, rfl, .inl rfl, Sd, D3.out, (Only.of_below B2.out).trans O3.out (fun _ h => h) (fun _ _ h => h), fun k hk => (S3.out k hk).imp id (fun e => Nat.le_trans B2.out.size e)⟩
      case' pos =>
        rw [if_pos ht0] at HO
        rw [ht0, show enoOf 0 = .nilIface from rfl]
        clear ht0
        go_wp2_with fail
        refine (sclone_to w3 ⟨nm.toArray⟩ hnm).mono ?_
        rintro e w4 ⟨rfl, b4⟩
        have B4 := Lib.hid b4
        clear b4
        go_wp2_with fail
        go_ret2
        unfold OpenPost
        rw [HO.out, if_pos rfl]
        obtain ⟨S', h1, h2, h3⟩ := open_end (nm := nm) H.out D3.out RA.out B2.out O3.out S3.out B4.out
        exact ⟨w4.heap.size, S', rfl, by rw [← HE.out]; exact h1, h2, h3⟩
end Go.Proofs.YtbpccbhlggcmfaaGreatDoor
namespace Go.Proofs.YtbpccbhlggcmfaaGreatDoor
open Go.RowKit
open Go.Maps

/-- A log of the caller's own in memory, with its disk. -/
structure CL (w W : World) (B d l : Nat) (S : Nat → Prop) (s : St) (nm : Key) (R : List Rc) : Prop where
  dl : DL W B d l S s nm R
  bel : Below w.heap.size w W
  ge : ∀ k, S k → w.heap.size ≤ k
section
variable {w W W' : World} {B d l : Nat} {S S' : Nat → Prop} {s s' : St} {nm : Key} {R R' : List Rc}
theorem CL.kb (h : CL w W B d l S s nm R) (hb : Below W.heap.size W W') : CL w W' B d l S s nm R := ⟨h.dl.kb hb, h.bel.trans (hb.mono h.bel.size), h.ge⟩
theorem CL.step (h : CL w W B d l S s nm R) (hd : DL W' B d l S' s' nm R') (ho : Only S W W') (hs : ∀ k, S' k → S k ∨ W.heap.size ≤ k) : CL w W' B d l S' s' nm R' :=
  ⟨hd, h.bel.trans (ho.below h.bel.size h.ge), fun k hk => (hs k hk).elim (h.ge k) (fun e => Nat.le_trans h.bel.size e)⟩
theorem CL.opened {l' : Nat} {S0 : Nat → Prop} (h : CL w W B d l S s nm R) (h0 : ∀ k, S0 k → S k) (hd : DL W' B d l' S' s' nm R') (ho : Only S0 W W') (hs : ∀ k, S' k → S0 k ∨ W.heap.size ≤ k) : CL w W' B d l' S' s' nm R' :=
  ⟨hd, h.bel.trans (ho.below h.bel.size (fun k hk => h.ge k (h0 k hk))), fun k hk => (hs k hk).elim (fun e => h.ge k (h0 k e)) (fun e => Nat.le_trans h.bel.size e)⟩
theorem Cl.opened {l' : Nat} (h : Cl w W B d S s) (hd : DL W' B d l' S' s' nm R') (ho : Only S W W') (hs : ∀ k, S' k → S k ∨ W.heap.size ≤ k) : CL w W' B d l' S' s' nm R' :=
  ⟨hd, h.bel.trans (ho.below h.bel.size h.ge), fun k hk => (hs k hk).elim (h.ge k) (fun e => Nat.le_trans h.bel.size e)⟩
theorem DL.ds (h : DL W B d l S s nm R) : ∃ S0, DS W B d S0 s ∧ ∀ k, S0 k → S k := by
  obtain ⟨S0, rv, E, hx, _⟩ := h
  exact ⟨S0, hx.ds, hx.s0⟩
/-- A call on the disk alone. -/
theorem DL.disk (h : DL W B d l S s nm R) : ∃ S0, DS W B d S0 s ∧ (∀ k, S0 k → S k) ∧ ∀ W' s', DPost W B d S0 s' W' → LPost W B d l S s' nm R W' := by
  obtain ⟨S0, rv, E, hx, rfl⟩ := h
  exact ⟨S0, hx.ds, hx.s0, fun W' s' hp => by obtain ⟨S1, h1, h2, h3⟩ := hp; exact hx.disk' h1 h2 h3⟩
theorem DL.rok (h : DL W B d l S s nm R) : (∀ r ∈ R, Rok r) ∧ ends R ≤ 1000000000 := by
  obtain ⟨S0, rv, E, hx, rfl⟩ := h
  refine ⟨fun r hr => ?_, hx.log.ra.small⟩
  obtain ⟨e, he, rfl⟩ := List.mem_map.1 hr
  exact hx.log.ra.rok e he
end
theorem len_dl (w : World) (B d l : Nat) (S : Nat → Prop) (s : St) (nm : Key) (R : List Rc) (h : DL w B d l S s nm R) : Calls Tryz.prog 28 #[.pointer (some ⟨l, 0, none⟩)] w fun e w' => e = .returned (.int .i64 (ends R)) ∧ w = w' := by
  obtain ⟨S0, rv, E, hx, rfl⟩ := h
  exact len_to w B l d nm rv E hx.log
theorem count_dl (w : World) (B d l : Nat) (S : Nat → Prop) (s : St) (nm : Key) (R : List Rc) (h : DL w B d l S s nm R) : Calls Tryz.prog 14 #[.pointer (some ⟨l, 0, none⟩)] w fun e w' => e = .returned (.int .i64 R.length) ∧ w = w' := by
  obtain ⟨S0, rv, E, hx, rfl⟩ := h
  rw [rcs_len]
  exact count_to w B l d nm rv E hx.log
theorem record_dl (w : World) (B d l : Nat) (S : Nat → Prop) (s : St) (nm : Key) (R : List Rc) (k : Int) (h : DL w B d l S s nm R) : Calls Tryz.prog 72 #[.pointer (some ⟨l, 0, none⟩), .int .i64 k] w (RecPost w R k) := by
  obtain ⟨S0, rv, E, hx, rfl⟩ := h
  exact record_to w B l d nm rv E k hx.log
/-- Open where it goes well. -/
theorem open_ok (w : World) (B d : Nat) (S0 : Nat → Prop) (s : St) (nm : Key) (n : Int) (h : DS w B d S0 s) (hw : s.works ≤ 900000000) (hfu : s.fuse < 9223372036854775808) (hnm : nm.length ≤ 281474976710656) (ok : Okb (fbytes nm s.files)) (h0 : (openS s nm n).1 = 0) :
    Calls Tryz.prog 8 #[.pointer (some ⟨d, 0, none⟩), stv nm, .int .i64 n] w fun e w' => ∃ l S', e = .returned (.tuple #[.pointer (some ⟨l, 0, none⟩), .nilIface]) ∧ DL w' B d l S' (openS s nm n).2.1 nm (openS s nm n).2.2 ∧ Only S0 w w' ∧ ∀ k, S' k → S0 k ∨ w.heap.size ≤ k := by
  refine (open_to w B d S0 s nm n h hw hfu hnm ok).mono fun e w' hp => ?_
  unfold OpenPost at hp
  rw [if_pos h0] at hp
  exact hp
def kl0 : St := St.new 1000
def kl1 : St := (openS kl0 [102] 0).2.1
def kr1 : List Rc := (openS kl0 [102] 0).2.2
def kl2 : St := (addS kl1 [102] kr1 1 [97]).2.1
def kr2 : List Rc := (addS kl1 [102] kr1 1 [97]).2.2
def kl3 : St := (addS kl2 [102] kr2 2 [98]).2.1
def kr3 : List Rc := (addS kl2 [102] kr2 2 [98]).2.2
theorem kl_a : (openS kl0 [102] 0).1 = 0 ∧ kl0.works ≤ 900000000 ∧ kl0.fuse < 9223372036854775808 ∧ fbytes [102] kl0.files = [] := by decide +kernel
theorem kl_b : (addS kl1 [102] kr1 1 [97]).1 = 0 ∧ kl1.works ≤ 900000000 ∧ kl1.fuse < 9223372036854775808 ∧ ends kr1 ≤ 900000000 := by decide +kernel
theorem kl_c : ends kr2 = 10 := by decide +kernel
theorem kl_d : (addS kl2 [102] kr2 2 [98]).1 = 0 ∧ kl2.works ≤ 900000000 ∧ kl2.fuse < 9223372036854775808 ∧ ends kr2 ≤ 900000000 := by decide +kernel
theorem kl_e : kr3.length = 2 := by decide +kernel
theorem kl_f : (openS kl3 [102] 10).1 = 0 ∧ kl3.works ≤ 900000000 ∧ kl3.fuse < 9223372036854775808 := by decide +kernel
theorem kl_g : fbytes [102] kl3.files = frm 1 [97] ++ frm 2 [98] := by decide +kernel
theorem kl_h : (openS kl3 [102] 10).2.2.length = 1 := by decide +kernel
theorem okb_one {x : Int} (h : 0 ≤ x ∧ x < 256) : Okb [x] := fun y hy => by rw [List.mem_singleton.1 hy]; exact h
theorem seen_one (w : World) (x : Int) (c : Nat) (fr : Nat × Nat) (hc : 1 ≤ c) : Seen (w.alloc (.cells #[.int .u8 x] 5 fr)) (.slice (some ⟨w.heap.size, 0, none⟩) 1 c) [x] := by
  refine .inr ⟨⟨w.heap.size, 0, none⟩, c, rfl, hc, fun j u h => ?_⟩
  rw [Addr.add_lit, Nat.zero_add, World.cell?_alloc_mark w _ _ fr j]
  simpa using h
end Go.Proofs.YtbpccbhlggcmfaaGreatDoor
