/- The reference's Right and Union, as steps on sets at hand. No condition but on how many spans. -/
import Derived.Test.YtpjfgkjhhmfhkaaSpnXm
import Derived.Test.YtpjfgkjhhmfhkaaSpnZ
namespace Go.Proofs.Ytpjfgkjhhmfhkaa
open Go.RowKit
set_option maxHeartbeats 4000000 in
theorem xright_to (w : World) (v : Value) (l : List Sp) (hs : SSeen w v l) (hl : l.length ≤ 900000) (ht : Top topN l) :
    Calls Try.prog 24 #[v] w fun e w' => (∃ b, e = .returned (.bool b) ∧ (b = true ↔ Nrm l)) ∧ Below w.heap.size w w' := by
  have HM := Lib.hid (xmake_to w v l hs hl ht)
  have HS := Lib.hid (fun W u (h1 : SSeen W v l) (h2 : SSeen W u (mk l)) => sameSpans_to W v u l (mk l) h1 h2 (by omega))
  have HV := Lib.hid hs
  obtain ⟨p, cap, rfl⟩ := hs.form
  clear hs hl ht
  go_enter Try.func24, Try.ntmps24
  go_wp2_with fail
  refine HM.out.mono ?_
  rintro e w1 ⟨v1, rfl, o1, b1⟩
  have O1 := Lib.hid o1
  have B1 := Lib.hid b1
  clear o1 b1
  go_wp2_with fail
  refine (HS.out w1 v1 (HV.out.kb B1.out) O1.out.seen).mono ?_
  rintro e w2 ⟨⟨r, rfl, hr⟩, b2⟩
  have HR := Lib.hid hr
  have B2 := Lib.hid (B1.out.trans (b2.mono B1.out.size))
  clear hr b2
  go_wp2_with fail
  go_ret
  exact ⟨⟨r, rfl, HR.out.trans same_mk⟩, B2.out⟩
set_option maxHeartbeats 4000000 in
theorem xunion_to (w : World) (v u : Value) (a b : List Sp) (hv : SSeen w v a) (hu : SSeen w u b) (hl : a.length + b.length ≤ 900000) (hta : Top topN a) (htb : Top topN b) :
    Calls Try.prog 26 #[v, u] w fun e w' => ∃ v', e = .returned v' ∧ SOwn w' w.heap.size v' (mk (a ++ b)) ∧ Below w.heap.size w w' := by
  have ht : Top topN (a ++ b) := fun s hs => (List.mem_append.1 hs).elim (hta s) (htb s)
  have HM := Lib.hid (fun W x (h : SSeen W x (a ++ b)) => xmake_to W x (a ++ b) h (by simpa using hl) ht)
  have b1 := (Below.refl w.heap.size w).alloc (Nat.le_refl _) (.cells #[] 23)
  have B1 := Lib.hid b1
  have OE : Hid (SOwn (w.alloc (.cells #[] 23)) w.heap.size (.slice (some ⟨w.heap.size, 0, none⟩) 0 0) []) := Lib.hid (sown_mk (R := []) rfl (Nat.le_refl _) (heap_alloc_last w _) (Nat.le_refl _) (by unfold maxLen; omega) rfl)
  have HV := Lib.hid hv
  have HU := Lib.hid hu
  have HL := Lib.hid hl
  have HLA : Hid (([] : List Sp).length + a.length ≤ 1000000) := Lib.hid (by simp; omega)
  obtain ⟨pa, ca, rfl⟩ := hv.form
  obtain ⟨pb, cb, rfl⟩ := hu.form
  obtain ⟨i0, hi0, hz0, hz1, hz2⟩ := info_parts spinfo
  clear hv hu hl hta htb ht b1
  go_enter Try.func26, Try.ntmps26
  go_wp2_with (first
    | (at_builtin; refine push_seen (by rfl) (.tmp 5) (.tmp 6) (by rfl) w.heap.size _ _ [] a (by rfl) OE.out (by rfl) (HV.out.kb B1.out) HLA.out B1.out.size ?_; intro p2 c2 w2 own2 _ _ b2; have O2 : Hid (SOwn w2 w.heap.size (.slice p2 a.length c2) a) := Lib.hid (by simpa using own2); have B2 := Lib.hid (B1.out.trans b2); clear own2 b2)
    | (at_builtin; refine push_seen (by rfl) (.tmp 7) (.tmp 8) (by rfl) w.heap.size _ _ a b (by rfl) O2.out (by rfl) (HU.out.kb B2.out) (by have := HL.out; omega) B2.out.size ?_; intro p3 c3 w3 own3 _ _ b3; have O3 := Lib.hid own3; have B3 := Lib.hid (B2.out.trans b3); clear own3 b3))
  refine (HM.out w3 _ O3.out.seen).mono ?_
  rintro e w4 ⟨v4, rfl, o4, b4⟩
  have O4 := Lib.hid (o4.mono B3.out.size)
  have B4 := Lib.hid (B3.out.trans (b4.mono B3.out.size))
  clear o4 b4
  go_wp2_with fail
  go_ret
  exact ⟨_, rfl, O4.out, B4.out⟩
end Go.Proofs.Ytpjfgkjhhmfhkaa
