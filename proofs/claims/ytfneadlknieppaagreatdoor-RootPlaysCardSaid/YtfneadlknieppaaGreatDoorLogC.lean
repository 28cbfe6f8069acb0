/- Records one behind the other as bytes, and what is read of bytes: plain mathematics. No condition. · How a log lies in memory beside its disk. No condition. · The small calls of a log: end, Length, Count, Record. No condition but that it lies so. · decode: the records at the beginning of bytes. Condition: the bytes are no more than a program's may be. · Add. Conditions: the numbers are no greater than a program's may be; what is added lies in no block of the log. -/
import Derived.Test.YtfneadlknieppaaGreatDoorFrmN
import Derived.Test.YtfneadlknieppaaGreatDoorDskR
import Derived.BigQuiet
import Derived.Test.YtfneadlknieppaaGreatDoorFrmK
import Derived.Test.YtfneadlknieppaaGreatDoorDskB
import Derived.Deep.RegionHeld3
namespace Go.Proofs.YtfneadlknieppaaGreatDoor
open Go.RowKit

/-- A record: its kind and its body. -/
abbrev Rc := Int × List Int
/-- A record that may be. -/
def Rok (r : Rc) : Prop := 1 ≤ r.1 ∧ r.1 ≤ 255 ∧ r.2.length ≤ 1048576 ∧ Okb r.2
def encs (R : List Rc) : List Int := R.flatMap fun r => frm r.1 r.2
def ends (R : List Rc) : Nat := (R.map fun r => 9 + r.2.length).sum
theorem ends_nil : ends [] = 0 := rfl
theorem ends_cons (r : Rc) (R : List Rc) : ends (r :: R) = 9 + r.2.length + ends R := by simp [ends]
theorem ends_app (R T : List Rc) : ends (R ++ T) = ends R + ends T := by simp [ends]
theorem ends_snoc (R : List Rc) (r : Rc) : ends (R ++ [r]) = ends R + (9 + r.2.length) := by simp [ends]
theorem ends_many : ∀ R : List Rc, 9 * R.length ≤ ends R
  | [] => Nat.le_refl _
  | r :: R => by have := ends_many R; rw [ends_cons, List.length_cons]; omega
theorem encs_nil : encs [] = [] := rfl
theorem encs_cons (r : Rc) (R : List Rc) : encs (r :: R) = frm r.1 r.2 ++ encs R := by simp [encs]
theorem encs_app (R T : List Rc) : encs (R ++ T) = encs R ++ encs T := by simp [encs]
theorem encs_snoc (R : List Rc) (r : Rc) : encs (R ++ [r]) = encs R ++ frm r.1 r.2 := by simp [encs]
theorem encs_len : ∀ R : List Rc, (encs R).length = ends R
  | [] => rfl
  | r :: R => by rw [encs_cons, List.length_append, frm_len, encs_len R, ends_cons]
theorem encs_ok {R : List Rc} (h : ∀ r ∈ R, Okb r.2) : Okb (encs R) := by
  intro x hx
  obtain ⟨r, hr, hx⟩ := List.mem_flatMap.1 hx
  exact frm_ok r.1 (h r hr) x hx
theorem be_one (k : Int) (h : 0 ≤ k ∧ k < 256) : bv (be k 1) = k := by rw [bv_be]; omega
/-- A record that was laid is read back, whatever is behind it. -/
theorem nxt_frm {k : Int} {b : List Int} (t : List Int) (h : Rok (k, b)) : nxt (frm k b ++ t) = (k, b, 9 + (b.length : Int), 0) := by
  obtain ⟨h1, h2, h3, h4⟩ := h
  simp only at h1 h2 h3 h4
  have hl := frm_len k b
  have e1 : frm k b ++ t = be k 1 ++ (be b.length 4 ++ (be (crc (hdr k b ++ b) : Nat) 4 ++ (b ++ t))) := by simp [frm, hdr]
  have l1 : (be k 1).length = 1 := be_length _ _
  have l4 : (be (b.length : Int) 4).length = 4 := be_length _ _
  have lc : (be ((crc (hdr k b ++ b) : Nat) : Int) 4).length = 4 := be_length _ _
  have t1 : (frm k b ++ t).take 1 = be k 1 := by rw [e1]; exact List.take_left' l1
  have d1 : (frm k b ++ t).drop 1 = be b.length 4 ++ (be (crc (hdr k b ++ b) : Nat) 4 ++ (b ++ t)) := by rw [e1]; exact List.drop_left' l1
  have t4 : ((frm k b ++ t).drop 1).take 4 = be b.length 4 := by rw [d1]; exact List.take_left' l4
  have d5 : (frm k b ++ t).drop 5 = be (crc (hdr k b ++ b) : Nat) 4 ++ (b ++ t) := by
    rw [show (5 : Nat) = 1 + 4 from rfl, ← List.drop_drop, d1]; exact List.drop_left' l4
  have tc : ((frm k b ++ t).drop 5).take 4 = be (crc (hdr k b ++ b) : Nat) 4 := by rw [d5]; exact List.take_left' lc
  have d9 : (frm k b ++ t).drop 9 = b ++ t := by
    rw [show (9 : Nat) = 5 + 4 from rfl, ← List.drop_drop, d5]; exact List.drop_left' lc
  have v1 : bv (be k 1) = k := be_one k (by omega)
  have v4 : bv (be (b.length : Int) 4) = b.length := by rw [bv_be]; exact Int.emod_eq_of_lt (by omega) (by omega)
  have hc := crc_hdr k h4
  have vc : bv (be ((crc (hdr k b ++ b) : Nat) : Int) 4) = (crc (hdr k b ++ b) : Nat) := by rw [bv_be]; exact Int.emod_eq_of_lt (by omega) (by omega)
  have t5 : (frm k b ++ t).take 5 = hdr k b := by
    have : frm k b ++ t = hdr k b ++ (be (crc (hdr k b ++ b) : Nat) 4 ++ (b ++ t)) := by simp [frm]
    rw [this]; exact List.take_left' (hdr_len k b)
  have tb : ((frm k b ++ t).drop 9).take b.length = b := by rw [d9]; exact List.take_left' rfl
  unfold nxt
  rw [if_neg (by rw [List.length_append, hl]; omega), t1, t4, tc, v1, v4, vc, if_neg (by omega), if_neg (by rw [List.length_append, hl]; omega), t5, Int.toNat_natCast, tb, if_pos rfl]
/-- What is read of bytes: the records up to the first that is none, and the number of its error. -/
def decF : Nat → List Int → List Rc × Int
  | 0, _ => ([], 0)
  | f + 1, l => if l = [] then ([], 0) else if (nxt l).2.2.2 = 0 then (((nxt l).1, (nxt l).2.1) :: (decF f (l.drop (nxt l).2.2.1.toNat)).1, (decF f (l.drop (nxt l).2.2.1.toNat)).2) else ([], (nxt l).2.2.2)
def dec (l : List Int) : List Rc × Int := decF l.length l
theorem nxt_size {l : List Int} (ok : Okb l) (h : (nxt l).2.2.2 = 0) : (nxt l).2.2.1 = 9 + ((nxt l).2.1.length : Int) ∧ (nxt l).2.2.1 ≤ l.length ∧ Rok ((nxt l).1, (nxt l).2.1) := by
  unfold nxt at h ⊢
  by_cases c1 : l.length < 9
  · rw [if_pos c1] at h; simp at h
  rw [if_neg c1] at h ⊢
  by_cases c2 : bv (l.take 1) = 0 ∨ 1048576 < bv ((l.drop 1).take 4)
  · rw [if_pos c2] at h; simp at h
  rw [if_neg c2] at h ⊢
  by_cases c3 : (l.length : Int) < 9 + bv ((l.drop 1).take 4)
  · rw [if_pos c3] at h; simp at h
  rw [if_neg c3] at h ⊢
  by_cases c4 : (crc (l.take 5 ++ (l.drop 9).take (bv ((l.drop 1).take 4)).toNat) : Nat) = bv ((l.drop 5).take 4)
  · rw [if_pos c4]
    have hr := len_range ok (by omega)
    have hk := kind_range ok (by omega)
    have hl : ((l.drop 9).take (bv ((l.drop 1).take 4)).toNat).length = (bv ((l.drop 1).take 4)).toNat := by rw [List.length_take, List.length_drop]; omega
    refine ⟨?_, ?_, ?_, ?_, ?_, (ok.drop 9).take _⟩
    · simp only [hl]; omega
    · simp only; omega
    · simp only; omega
    · simp only; omega
    · simp only [hl]; omega
  · rw [if_neg c4] at h; simp at h
theorem decF_fuel : ∀ (f g : Nat) (l : List Int), Okb l → l.length ≤ f → l.length ≤ g → decF f l = decF g l
  | 0, 0, _, _, _, _ => rfl
  | 0, g + 1, l, _, h, _ => by
    obtain rfl : l = [] := List.eq_nil_of_length_eq_zero (by omega)
    rw [decF, decF, if_pos rfl]
  | f + 1, 0, l, _, _, h => by
    obtain rfl : l = [] := List.eq_nil_of_length_eq_zero (by omega)
    rw [decF, decF, if_pos rfl]
  | f + 1, g + 1, l, ok, h1, h2 => by
    rw [decF, decF]
    by_cases hn : l = []
    · rw [if_pos hn, if_pos hn]
    · rw [if_neg hn, if_neg hn]
      by_cases he : (nxt l).2.2.2 = 0
      · rw [if_pos he, if_pos he]
        have hs := nxt_size ok he
        have hl : (l.drop (nxt l).2.2.1.toNat).length + 9 ≤ l.length := by rw [List.length_drop]; omega
        rw [decF_fuel f g _ (ok.drop _) (by omega) (by omega)]
      · rw [if_neg he, if_neg he]
theorem dec_nil : dec [] = ([], 0) := rfl
theorem dec_bad {l : List Int} (hn : l ≠ []) (h : (nxt l).2.2.2 ≠ 0) : dec l = ([], (nxt l).2.2.2) := by
  unfold dec
  obtain ⟨m, hm⟩ : ∃ m, l.length = m + 1 := ⟨l.length - 1, by have := List.length_pos_iff.2 hn; omega⟩
  rw [hm, decF, if_neg hn, if_neg h]
theorem dec_good {l : List Int} (ok : Okb l) (hn : l ≠ []) (h : (nxt l).2.2.2 = 0) : dec l = (((nxt l).1, (nxt l).2.1) :: (dec (l.drop (nxt l).2.2.1.toNat)).1, (dec (l.drop (nxt l).2.2.1.toNat)).2) := by
  obtain ⟨m, hm⟩ : ∃ m, l.length = m + 1 := ⟨l.length - 1, by have := List.length_pos_iff.2 hn; omega⟩
  have hs := nxt_size ok h
  have hl : (l.drop (nxt l).2.2.1.toNat).length ≤ m := by rw [List.length_drop]; omega
  have e : decF m (l.drop (nxt l).2.2.1.toNat) = dec (l.drop (nxt l).2.2.1.toNat) := decF_fuel _ _ _ (ok.drop _) hl (Nat.le_refl _)
  have e0 : dec l = decF (m + 1) l := by unfold dec; rw [hm]
  rw [e0, decF, if_neg hn, if_pos h, e]
/-- Records that were laid are read back. -/
theorem dec_encs : ∀ (R : List Rc) (t : List Int), (∀ r ∈ R, Rok r) → Okb t → dec (encs R ++ t) = (R ++ (dec t).1, (dec t).2)
  | [], t, _, _ => rfl
  | r :: R, t, h, ok => by
    have hr := h r (List.mem_cons_self ..)
    have hR : ∀ x ∈ R, Rok x := fun x hx => h x (List.mem_cons_of_mem _ hx)
    have ih := dec_encs R t hR ok
    have hx := nxt_frm (k := r.1) (b := r.2) (encs R ++ t) hr
    have ho : Okb (encs (r :: R) ++ t) := (encs_ok fun x hx => (h x hx).2.2.2).app ok
    rw [encs_cons, List.append_assoc] at ho ⊢
    have hl : (frm r.1 r.2 ++ (encs R ++ t)).length ≠ 0 := by rw [List.length_append, frm_len]; omega
    have hn : frm r.1 r.2 ++ (encs R ++ t) ≠ [] := fun e => hl (by rw [e]; rfl)
    have hd : (frm r.1 r.2 ++ (encs R ++ t)).drop (9 + (r.2.length : Int)).toNat = encs R ++ t := List.drop_left' (by rw [frm_len]; omega)
    rw [dec_good ho hn (by rw [hx]), hx]
    simp only [hd, ih, List.cons_append]
theorem dec_all {R : List Rc} (h : ∀ r ∈ R, Rok r) : dec (encs R) = (R, 0) := by
  have := dec_encs R [] h Okb.nil
  rw [List.append_nil, dec_nil] at this
  simpa using this
/-- What is read makes up the beginning of the bytes. -/
theorem dec_rok : ∀ (n : Nat) (l : List Int), l.length ≤ n → Okb l → (∀ r ∈ (dec l).1, Rok r) ∧ ends (dec l).1 ≤ l.length ∧ ((dec l).2 = 0 → ends (dec l).1 = l.length)
  | n, l, hn, ok => by
    by_cases h0 : l = []
    · subst h0; rw [dec_nil]; exact ⟨fun r hr => by simp at hr, Nat.le_refl _, fun _ => rfl⟩
    · by_cases he : (nxt l).2.2.2 = 0
      · have hs := nxt_size ok he
        have hl : (l.drop (nxt l).2.2.1.toNat).length + (9 + (nxt l).2.1.length) = l.length := by rw [List.length_drop]; omega
        obtain ⟨m, rfl⟩ : ∃ m, n = m + 1 := ⟨n - 1, by have := List.length_pos_iff.2 h0; omega⟩
        obtain ⟨i1, i2, i3⟩ := dec_rok m _ (by omega) (ok.drop (nxt l).2.2.1.toNat)
        rw [dec_good ok h0 he]
        refine ⟨fun r hr => ?_, ?_, fun h => ?_⟩
        · rcases List.mem_cons.1 hr with rfl | hr
          · exact hs.2.2
          · exact i1 r hr
        · simp only [ends_cons]; omega
        · have := i3 h
          simp only [ends_cons]; omega
      · rw [dec_bad h0 he]; exact ⟨fun r hr => by simp at hr, Nat.zero_le _, fun h => absurd h he⟩
end Go.Proofs.YtfneadlknieppaaGreatDoor
namespace Go.Proofs.YtfneadlknieppaaGreatDoor
open Go.RowKit
open Go.Maps

/-- A record in memory: the slice of its body, its kind, its body. -/
abbrev Re := Value × Int × List Int
def rcs (E : List Re) : List Rc := E.map (·.2)
theorem rcs_app (E F : List Re) : rcs (E ++ F) = rcs E ++ rcs F := by simp [rcs]
theorem rcs_len (E : List Re) : (rcs E).length = E.length := by simp [rcs]
theorem rcs_take (E : List Re) (k : Nat) : rcs (E.take k) = (rcs E).take k := by simp [rcs, List.map_take]
/-- The cells of the record e, ahead of which there are a bytes. -/
def rrow (a : Nat) (e : Re) : List Value := [.int .i64 e.2.1, e.1, .int .i64 ((a + (9 + e.2.2.length) : Nat) : Int)]
def lrows : Nat → List Re → List Value
  | _, [] => []
  | a, e :: E => rrow a e ++ lrows (a + (9 + e.2.2.length)) E
theorem lrows_length : ∀ (a : Nat) (E : List Re), (lrows a E).length = E.length * 3
  | _, [] => rfl
  | a, e :: E => by rw [lrows, List.length_append, lrows_length]; simp [rrow]; omega
theorem lrows_app : ∀ (a : Nat) (E F : List Re), lrows a (E ++ F) = lrows a E ++ lrows (a + ends (rcs E)) F
  | _, [], _ => rfl
  | a, e :: E, F => by
    rw [List.cons_append, lrows, lrows, lrows_app, List.append_assoc]
    congr 3
    show _ = a + ends (e.2 :: rcs E)
    rw [ends_cons]; omega
theorem lrows_one (a : Nat) (e : Re) : lrows a [e] = rrow a e := by simp [lrows]
theorem lrows_at : ∀ (a : Nat) (E : List Re) (i c : Nat) (hi : i < E.length), c < 3 → (lrows a E)[i * 3 + c]? = (rrow (a + ends (rcs (E.take i))) E[i])[c]?
  | a, e :: E, 0, c, _, hc => by
    rw [lrows, List.getElem?_append_left (by simp [rrow]; omega)]
    simp [rcs, ends]
  | a, e :: E, i + 1, c, hi, hc => by
    rw [lrows, List.getElem?_append_right (by simp [rrow]; omega), show (rrow a e).length = 3 from rfl, show (i + 1) * 3 + c - 3 = i * 3 + c by omega, lrows_at _ E i c (by simpa using hi) hc]
    congr 2
    show a + (9 + e.2.2.length) + ends (rcs (E.take i)) = a + ends (e.2 :: rcs (E.take i))
    rw [ends_cons]; omega
theorem lrows_take (a : Nat) (E : List Re) (k : Nat) : lrows a (E.take k) = (lrows a E).take (k * 3) := by
  by_cases hk : k ≤ E.length
  · have h := lrows_app a (E.take k) (E.drop k)
    rw [List.take_append_drop] at h
    rw [h]
    exact (List.take_left' (by rw [lrows_length, List.length_take, Nat.min_eq_left hk])).symm
  · rw [List.take_of_length_le (by omega), List.take_of_length_le (by rw [lrows_length]; omega)]

/-- The blocks of a log. -/
def LF (l : Nat) (rv : Value) (E : List Re) (k : Nat) : Prop := k = l ∨ rv.ownBlock = some k ∨ ∃ e ∈ E, e.1.ownBlock = some k
section
variable {w w' : World} {B l d : Nat} {nm : Key} {rv : Value} {E : List Re}
end
section
variable {w w' : World} {B d l : Nat} {S S0 : Nat → Prop} {s s' : St} {nm : Key} {rv : Value} {E : List Re} {R : List Rc}
end
end Go.Proofs.YtfneadlknieppaaGreatDoor
namespace Go.Proofs.YtfneadlknieppaaGreatDoor
open Go.RowKit
open Go.Maps

theorem lcell_kb {w w' : World} {a : Addr} {u : Value} (h : w.cell? a = some u) (hb : Below w.heap.size w w') : w'.cell? a = some u := by
  rw [World.cell?_of_block (w := w) (hb.block _ (World.block_lt_of_cell? w _ h))]; exact h
/-- What Record answers. -/
def recR (R : List Rc) (k : Int) : Int × List Int × Bool := if k < 0 ∨ (R.length : Int) ≤ k then (0, [], false) else match R[k.toNat]? with | some r => (r.1, r.2, true) | none => (0, [], false)
def RecPost (w : World) (R : List Rc) (k : Int) (e : Ending) (w' : World) : Prop :=
  ∃ v, e = .returned (.tuple #[.int .i64 (recR R k).1, v, .bool (recR R k).2.2]) ∧ BOwn w' w.heap.size v (recR R k).2.1 ∧ Below w.heap.size w w'
end Go.Proofs.YtfneadlknieppaaGreatDoor
namespace Go.Proofs.YtfneadlknieppaaGreatDoor
open Go.RowKit
open Go.Maps

theorem rrow_one (a : Nat) {e : Re} (h : e.1.oneCell' = true) : ∀ u ∈ rrow a e, u.oneCell' = true := by
  intro u hu
  simp only [rrow, List.mem_cons, List.not_mem_nil, or_false] at hu
  rcases hu with rfl | rfl | rfl
  all_goals first | rfl | exact h
theorem own_one {w : World} {B e size n : Nat} {v : Value} {xs : List Value} (h : w.ownsRow B e size v n xs) : v.oneCell' = true := by
  obtain ⟨p, cap, rfl⟩ := own_slice h; rfl
theorem dec_fits {n : Nat} (h : n ≤ 111111111) : n + 1 ≤ maxLen ∧ (n + 1) * 40 ≤ 140737488355328 := by unfold maxLen; omega
theorem dec_step {l : List Int} {m : Nat} {kk sz : Int} {xs : List Int} (ok : Okb (l.drop m)) (hm : m < l.length) (hx : nxt (l.drop m) = (kk, xs, sz, 0)) : dec (l.drop m) = ((kk, xs) :: (dec (l.drop (m + (9 + xs.length)))).1, (dec (l.drop (m + (9 + xs.length)))).2) := by
  have hs := (nxt_size ok (by rw [hx])).1
  rw [hx] at hs
  simp only at hs
  rw [dec_good ok (by intro e; have := congrArg List.length e; rw [List.length_drop] at this; simp at this; omega) (by rw [hx]), hx]
  simp only [List.drop_drop]
  rw [show sz.toNat = 9 + xs.length from by omega]
theorem errOf_nz {c : Int} (h : ¬ c = 0) : errOf c = kind c := by unfold errOf; rw [if_neg h]
theorem seenr_drop {w : World} {l : List Int} {g o cap : Nat} (h : SeenR w (.slice (some ⟨g, o, none⟩) l.length cap) l) (m : Nat) (hm : m ≤ l.length) : SeenR w (.slice (some ⟨g, o + m, none⟩) (l.length - m) (cap - m)) (l.drop m) := by
  rcases h with ⟨h, _⟩ | ⟨g', o', cap', h, h2, hu⟩
  · cases h
  · cases h
    have e : (l.drop m).length = l.length - m := List.length_drop
    refine .inr ⟨g, o + m, cap - m, by rw [e], by rw [e]; omega, fun j u hj => ?_⟩
    have := hu (m + j) u (by simpa [us, List.getElem?_drop] using hj)
    rwa [← Nat.add_assoc] at this
end Go.Proofs.YtfneadlknieppaaGreatDoor
namespace Go.Proofs.YtfneadlknieppaaGreatDoor
open Go.RowKit
open Go.Maps

def addS (s : St) (nm : Key) (R : List Rc) (k : Int) (x : List Int) : Int × St × List Rc :=
  if k < 1 ∨ 255 < k ∨ 1048576 < x.length then (1, s, R) else if (s.append nm (frm k x)).1 = 0 then (0, (s.append nm (frm k x)).2, R ++ [(k, x)]) else ((s.append nm (frm k x)).1, (s.append nm (frm k x)).2, R)
theorem enoOf_nz {k : Int} (h : ¬ k = 0) : enoOf k = eno k := if_neg h
theorem wp_region_any_drew {P : Program} {ops : Array Oper} {Q : Exit → Act → World → Prop} {id : Nat} {a : Act} {w : World} (hm : P.follows .mixedOrders = true) (h : wpAny P .any ops Q ops.size (Array.replicate ops.size false) a w.drew) : (Code.region id ops true).wp P Q a w := wp_region_any hm h
end Go.Proofs.YtfneadlknieppaaGreatDoor
