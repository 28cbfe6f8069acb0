/- Records one behind the other as bytes, and what is read of bytes: plain mathematics. No condition. · How a log lies in memory beside its disk. No condition. · The small calls of a log: end, Length, Count, Record. No condition but that it lies so. · decode: the records at the beginning of bytes. Condition: the bytes are no more than a program's may be. · Add. Conditions: the numbers are no greater than a program's may be; what is added lies in no block of the log. -/
import Derived.Test.YtbpccbhlggcmfaaGreatDoorFrmN
import Derived.Test.YtbpccbhlggcmfaaGreatDoorGenApp
import Derived.Test.YtbpccbhlggcmfaaGreatDoorDskR
import Derived.BigQuiet
import Derived.Test.YtbpccbhlggcmfaaGreatDoorFrmK
import Derived.Test.YtbpccbhlggcmfaaGreatDoorDskB
import Derived.Deep.RegionHeld3
namespace Go.Proofs.YtbpccbhlggcmfaaGreatDoor
open Go.RowKit

/-- A record: its kind and its body. -/
abbrev Rc := Int × List Int
/-- A record that may be. -/
def Rok (r : Rc) : Prop := 1 ≤ r.1 ∧ r.1 ≤ 255 ∧ r.2.length ≤ 1048576 ∧ Okb r.2
def encs (R : List Rc) : List Int := R.flatMap fun r => frm r.1 r.2
def ends (R : List Rc) : Nat := (R.map fun r => 9 + r.2.length).sum
theorem ends_nil : ends [] = 0 := rfl
theorem ends_cons (r : Rc) (R : List Rc) : ends (r :: R) = 9 + r.2.length + ends R := by simp [ends]
theorem ends_app (R T : List Rc) : ends (R ++ T) = ends R + ends T := by simp [ends]
theorem ends_snoc (R : List Rc) (r : Rc) : ends (R ++ [r]) = ends R + (9 + r.2.length) := by simp [ends]
theorem ends_many : ∀ R : List Rc, 9 * R.length ≤ ends R
  | [] => Nat.le_refl _
  | r :: R => by have := ends_many R; rw [ends_cons, List.length_cons]; omega
theorem encs_nil : encs [] = [] := rfl
theorem encs_cons (r : Rc) (R : List Rc) : encs (r :: R) = frm r.1 r.2 ++ encs R := by simp [encs]
theorem encs_app (R T : List Rc) : encs (R ++ T) = encs R ++ encs T := by simp [encs]
theorem encs_snoc (R : List Rc) (r : Rc) : encs (R ++ [r]) = encs R ++ frm r.1 r.2 := by simp [encs]
theorem encs_len : ∀ R : List Rc, (encs R).length = ends R
  | [] => rfl
  | r :: R => by rw [encs_cons, List.length_append, frm_len, encs_len R, ends_cons]
theorem encs_ok {R : List Rc} (h : ∀ r ∈ R, Okb r.2) : Okb (encs R) := by
  intro x hx
  obtain ⟨r, hr, hx⟩ := List.mem_flatMap.1 hx
  exact frm_ok r.1 (h r hr) x hx
theorem be_one (k : Int) (h : 0 ≤ k ∧ k < 256) : bv (be k 1) = k := by rw [bv_be]; omega
/-- A record that was laid is read back, whatever is behind it. -/
theorem nxt_frm {k : Int} {b : List Int} (t : List Int) (h : Rok (k, b)) : nxt (frm k b ++ t) = (k, b, 9 + (b.length : Int), 0) := by
  obtain ⟨h1, h2, h3, h4⟩ := h
  simp only at h1 h2 h3 h4
  have hl := frm_len k b
  have e1 : frm k b ++ t = be k 1 ++ (be b.length 4 ++ (be (crc (hdr k b ++ b) : Nat) 4 ++ (b ++ t))) := by simp [frm, hdr]
  have l1 : (be k 1).length = 1 := be_length _ _
  have l4 : (be (b.length : Int) 4).length = 4 := be_length _ _
  have lc : (be ((crc (hdr k b ++ b) : Nat) : Int) 4).length = 4 := be_length _ _
  have t1 : (frm k b ++ t).take 1 = be k 1 := by rw [e1]; exact List.take_left' l1
  have d1 : (frm k b ++ t).drop 1 = be b.length 4 ++ (be (crc (hdr k b ++ b) : Nat) 4 ++ (b ++ t)) := by rw [e1]; exact List.drop_left' l1
  have t4 : ((frm k b ++ t).drop 1).take 4 = be b.length 4 := by rw [d1]; exact List.take_left' l4
  have d5 : (frm k b ++ t).drop 5 = be (crc (hdr k b ++ b) : Nat) 4 ++ (b ++ t) := by
    rw [show (5 : Nat) = 1 + 4 from rfl, ← List.drop_drop, d1]; exact List.drop_left' l4
  have tc : ((frm k b ++ t).drop 5).take 4 = be (crc (hdr k b ++ b) : Nat) 4 := by rw [d5]; exact List.take_left' lc
  have d9 : (frm k b ++ t).drop 9 = b ++ t := by
    rw [show (9 : Nat) = 5 + 4 from rfl, ← List.drop_drop, d5]; exact List.drop_left' lc
  have v1 : bv (be k 1) = k := be_one k (by omega)
  have v4 : bv (be (b.length : Int) 4) = b.length := by rw [bv_be]; exact Int.emod_eq_of_lt (by omega) (by omega)
  have hc := crc_hdr k h4
  have vc : bv (be ((crc (hdr k b ++ b) : Nat) : Int) 4) = (crc (hdr k b ++ b) : Nat) := by rw [bv_be]; exact Int.emod_eq_of_lt (by omega) (by omega)
  have t5 : (frm k b ++ t).take 5 = hdr k b := by
    have : frm k b ++ t = hdr k b ++ (be (crc (hdr k b ++ b) : Nat) 4 ++ (b ++ t)) := by simp [frm]
    rw [this]; exact List.take_left' (hdr_len k b)
  have tb : ((frm k b ++ t).drop 9).take b.length = b := by rw [d9]; exact List.take_left' rfl
  unfold nxt
  rw [if_neg (by rw [List.length_append, hl]; omega), t1, t4, tc, v1, v4, vc, if_neg (by omega), if_neg (by rw [List.length_append, hl]; omega), t5, Int.toNat_natCast, tb, if_pos rfl]
/-- What is read of bytes: the records up to the first that is none, and the number of its error. -/
def decF : Nat → List Int → List Rc × Int
  | 0, _ => ([], 0)
  | f + 1, l => if l = [] then ([], 0) else if (nxt l).2.2.2 = 0 then (((nxt l).1, (nxt l).2.1) :: (decF f (l.drop (nxt l).2.2.1.toNat)).1, (decF f (l.drop (nxt l).2.2.1.toNat)).2) else ([], (nxt l).2.2.2)
def dec (l : List Int) : List Rc × Int := decF l.length l
theorem nxt_size {l : List Int} (ok : Okb l) (h : (nxt l).2.2.2 = 0) : (nxt l).2.2.1 = 9 + ((nxt l).2.1.length : Int) ∧ (nxt l).2.2.1 ≤ l.length ∧ Rok ((nxt l).1, (nxt l).2.1) := by
  unfold nxt at h ⊢
  by_cases c1 : l.length < 9
  · rw [if_pos c1] at h; simp at h
  rw [if_neg c1] at h ⊢
  by_cases c2 : bv (l.take 1) = 0 ∨ 1048576 < bv ((l.drop 1).take 4)
  · rw [if_pos c2] at h; simp at h
  rw [if_neg c2] at h ⊢
  by_cases c3 : (l.length : Int) < 9 + bv ((l.drop 1).take 4)
  · rw [if_pos c3] at h; simp at h
  rw [if_neg c3] at h ⊢
  by_cases c4 : (crc (l.take 5 ++ (l.drop 9).take (bv ((l.drop 1).take 4)).toNat) : Nat) = bv ((l.drop 5).take 4)
  · rw [if_pos c4]
    have hr := len_range ok (by omega)
    have hk := kind_range ok (by omega)
    have hl : ((l.drop 9).take (bv ((l.drop 1).take 4)).toNat).length = (bv ((l.drop 1).take 4)).toNat := by rw [List.length_take, List.length_drop]; omega
    refine ⟨?_, ?_, ?_, ?_, ?_, (ok.drop 9).take _⟩
    · simp only [hl]; omega
    · simp only; omega
    · simp only; omega
    · simp only; omega
    · simp only [hl]; omega
  · rw [if_neg c4] at h; simp at h
theorem decF_fuel : ∀ (f g : Nat) (l : List Int), Okb l → l.length ≤ f → l.length ≤ g → decF f l = decF g l
  | 0, 0, _, _, _, _ => rfl
  | 0, g + 1, l, _, h, _ => by
    obtain rfl : l = [] := List.eq_nil_of_length_eq_zero (by omega)
    rw [decF, decF, if_pos rfl]
  | f + 1, 0, l, _, _, h => by
    obtain rfl : l = [] := List.eq_nil_of_length_eq_zero (by omega)
    rw [decF, decF, if_pos rfl]
  | f + 1, g + 1, l, ok, h1, h2 => by
    rw [decF, decF]
    by_cases hn : l = []
    · rw [if_pos hn, if_pos hn]
    · rw [if_neg hn, if_neg hn]
      by_cases he : (nxt l).2.2.2 = 0
      · rw [if_pos he, if_pos he]
        have hs := nxt_size ok he
        have hl : (l.drop (nxt l).2.2.1.toNat).length + 9 ≤ l.length := by rw [List.length_drop]; omega
        rw [decF_fuel f g _ (ok.drop _) (by omega) (by omega)]
      · rw [if_neg he, if_neg he]
theorem dec_nil : dec [] = ([], 0) := rfl
theorem dec_bad {l : List Int} (hn : l ≠ []) (h : (nxt l).2.2.2 ≠ 0) : dec l = ([], (nxt l).2.2.2) := by
  unfold dec
  obtain ⟨m, hm⟩ : ∃ m, l.length = m + 1 := ⟨l.length - 1, by have := List.length_pos_iff.2 hn; omega⟩
  rw [hm, decF, if_neg hn, if_neg h]
theorem dec_good {l : List Int} (ok : Okb l) (hn : l ≠ []) (h : (nxt l).2.2.2 = 0) : dec l = (((nxt l).1, (nxt l).2.1) :: (dec (l.drop (nxt l).2.2.1.toNat)).1, (dec (l.drop (nxt l).2.2.1.toNat)).2) := by
  obtain ⟨m, hm⟩ : ∃ m, l.length = m + 1 := ⟨l.length - 1, by have := List.length_pos_iff.2 hn; omega⟩
  have hs := nxt_size ok h
  have hl : (l.drop (nxt l).2.2.1.toNat).length ≤ m := by rw [List.length_drop]; omega
  have e : decF m (l.drop (nxt l).2.2.1.toNat) = dec (l.drop (nxt l).2.2.1.toNat) := decF_fuel _ _ _ (ok.drop _) hl (Nat.le_refl _)
  have e0 : dec l = decF (m + 1) l := by unfold dec; rw [hm]
  rw [e0, decF, if_neg hn, if_pos h, e]
/-- Records that were laid are read back. -/
theorem dec_encs : ∀ (R : List Rc) (t : List Int), (∀ r ∈ R, Rok r) → Okb t → dec (encs R ++ t) = (R ++ (dec t).1, (dec t).2)
  | [], t, _, _ => rfl
  | r :: R, t, h, ok => by
    have hr := h r (List.mem_cons_self ..)
    have hR : ∀ x ∈ R, Rok x := fun x hx => h x (List.mem_cons_of_mem _ hx)
    have ih := dec_encs R t hR ok
    have hx := nxt_frm (k := r.1) (b := r.2) (encs R ++ t) hr
    have ho : Okb (encs (r :: R) ++ t) := (encs_ok fun x hx => (h x hx).2.2.2).app ok
    rw [encs_cons, List.append_assoc] at ho ⊢
    have hl : (frm r.1 r.2 ++ (encs R ++ t)).length ≠ 0 := by rw [List.length_append, frm_len]; omega
    have hn : frm r.1 r.2 ++ (encs R ++ t) ≠ [] := fun e => hl (by rw [e]; rfl)
    have hd : (frm r.1 r.2 ++ (encs R ++ t)).drop (9 + (r.2.length : Int)).toNat = encs R ++ t := List.drop_left' (by rw [frm_len]; omega)
    rw [dec_good ho hn (by rw [hx]), hx]
    simp only [hd, ih, List.cons_append]
theorem dec_all {R : List Rc} (h : ∀ r ∈ R, Rok r) : dec (encs R) = (R, 0) := by
  have := dec_encs R [] h Okb.nil
  rw [List.append_nil, dec_nil] at this
  simpa using this
/-- What is read makes up the beginning of the bytes. -/
theorem dec_rok : ∀ (n : Nat) (l : List Int), l.length ≤ n → Okb l → (∀ r ∈ (dec l).1, Rok r) ∧ ends (dec l).1 ≤ l.length ∧ ((dec l).2 = 0 → ends (dec l).1 = l.length)
  | n, l, hn, ok => by
    by_cases h0 : l = []
    · subst h0; rw [dec_nil]; exact ⟨fun r hr => by simp at hr, Nat.le_refl _, fun _ => rfl⟩
    · by_cases he : (nxt l).2.2.2 = 0
      · have hs := nxt_size ok he
        have hl : (l.drop (nxt l).2.2.1.toNat).length + (9 + (nxt l).2.1.length) = l.length := by rw [List.length_drop]; omega
        obtain ⟨m, rfl⟩ : ∃ m, n = m + 1 := ⟨n - 1, by have := List.length_pos_iff.2 h0; omega⟩
        obtain ⟨i1, i2, i3⟩ := dec_rok m _ (by omega) (ok.drop (nxt l).2.2.1.toNat)
        rw [dec_good ok h0 he]
        refine ⟨fun r hr => ?_, ?_, fun h => ?_⟩
        · rcases List.mem_cons.1 hr with rfl | hr
          · exact hs.2.2
          · exact i1 r hr
        · simp only [ends_cons]; omega
        · have := i3 h
          simp only [ends_cons]; omega
      · rw [dec_bad h0 he]; exact ⟨fun r hr => by simp at hr, Nat.zero_le _, fun h => absurd h he⟩
end Go.Proofs.YtbpccbhlggcmfaaGreatDoor
namespace Go.Proofs.YtbpccbhlggcmfaaGreatDoor
open Go.RowKit
open Go.Maps

/-- A record in memory: the slice of its body, its kind, its body. -/
abbrev Re := Value × Int × List Int
def rcs (E : List Re) : List Rc := E.map (·.2)
theorem rcs_app (E F : List Re) : rcs (E ++ F) = rcs E ++ rcs F := by simp [rcs]
theorem rcs_len (E : List Re) : (rcs E).length = E.length := by simp [rcs]
theorem rcs_take (E : List Re) (k : Nat) : rcs (E.take k) = (rcs E).take k := by simp [rcs, List.map_take]
/-- The cells of the record e, ahead of which there are a bytes. -/
def rrow (a : Nat) (e : Re) : List Value := [.int .i64 e.2.1, e.1, .int .i64 ((a + (9 + e.2.2.length) : Nat) : Int)]
def lrows : Nat → List Re → List Value
  | _, [] => []
  | a, e :: E => rrow a e ++ lrows (a + (9 + e.2.2.length)) E
theorem lrows_length : ∀ (a : Nat) (E : List Re), (lrows a E).length = E.length * 3
  | _, [] => rfl
  | a, e :: E => by rw [lrows, List.length_append, lrows_length]; simp [rrow]; omega
theorem lrows_app : ∀ (a : Nat) (E F : List Re), lrows a (E ++ F) = lrows a E ++ lrows (a + ends (rcs E)) F
  | _, [], _ => rfl
  | a, e :: E, F => by
    rw [List.cons_append, lrows, lrows, lrows_app, List.append_assoc]
    congr 3
    show _ = a + ends (e.2 :: rcs E)
    rw [ends_cons]; omega
theorem lrows_one (a : Nat) (e : Re) : lrows a [e] = rrow a e := by simp [lrows]
theorem lrows_at : ∀ (a : Nat) (E : List Re) (i c : Nat) (hi : i < E.length), c < 3 → (lrows a E)[i * 3 + c]? = (rrow (a + ends (rcs (E.take i))) E[i])[c]?
  | a, e :: E, 0, c, _, hc => by
    rw [lrows, List.getElem?_append_left (by simp [rrow]; omega)]
    simp [rcs, ends]
  | a, e :: E, i + 1, c, hi, hc => by
    rw [lrows, List.getElem?_append_right (by simp [rrow]; omega), show (rrow a e).length = 3 from rfl, show (i + 1) * 3 + c - 3 = i * 3 + c by omega, lrows_at _ E i c (by simpa using hi) hc]
    congr 2
    show a + (9 + e.2.2.length) + ends (rcs (E.take i)) = a + ends (e.2 :: rcs (E.take i))
    rw [ends_cons]; omega
theorem lrows_take (a : Nat) (E : List Re) (k : Nat) : lrows a (E.take k) = (lrows a E).take (k * 3) := by
  by_cases hk : k ≤ E.length
  · have h := lrows_app a (E.take k) (E.drop k)
    rw [List.take_append_drop] at h
    rw [h]
    exact (List.take_left' (by rw [lrows_length, List.length_take, Nat.min_eq_left hk])).symm
  · rw [List.take_of_length_le (by omega), List.take_of_length_le (by rw [lrows_length]; omega)]

/-- The blocks of a log. -/
def LF (l : Nat) (rv : Value) (E : List Re) (k : Nat) : Prop := k = l ∨ rv.ownBlock = some k ∨ ∃ e ∈ E, e.1.ownBlock = some k
/-- A slice of records. -/
structure RAt (w : World) (B : Nat) (rv : Value) (E : List Re) : Prop where
  row : w.ownsRow B 112 3 rv E.length (lrows 0 E)
  bod : ∀ e ∈ E, BOwn w B e.1 e.2.2
  rok : ∀ e ∈ E, Rok e.2
  small : ends (rcs E) ≤ 1000000000
/-- The log at block l. -/
structure LAt (w : World) (B l d : Nat) (nm : Key) (rv : Value) (E : List Re) : Prop where
  cell : w.heap[l]? = some (.cells #[.pointer (some ⟨d, 0, none⟩), stv nm, rv] 81 (0, 0))
  ra : RAt w B rv E
  bl : B ≤ l
section
variable {w w' : World} {B l d : Nat} {nm : Key} {rv : Value} {E : List Re}
theorem RAt.nil (w : World) (B : Nat) : RAt w B (.slice none 0 0) [] := ⟨World.ownsRow_nil _ _ _ _, fun _ h => by simp at h, fun _ h => by simp at h, by simp [rcs, ends]⟩
theorem RAt.kept {T : Nat → Prop} (h : RAt w B rv E) (ho : Only T w w') (hT : ∀ k, (rv.ownBlock = some k ∨ ∃ e ∈ E, e.1.ownBlock = some k) → ¬ T k) : RAt w' B rv E where
  row := own_kept h.row ho fun k hk => hT k (.inl hk)
  bod := fun e he => own_kept (h.bod e he) ho fun k hk => hT k (.inr ⟨e, he, hk⟩)
  rok := h.rok
  small := h.small
theorem RAt.many (h : RAt w B rv E) : E.length ≤ 111111111 := by have h1 := ends_many (rcs E); have h2 := h.small; rw [rcs_len] at h1; omega
theorem RAt.kb (h : RAt w B rv E) (hb : Below w.heap.size w w') : RAt w' B rv E := h.kept (T := fun _ => False) (Only.of_below hb) (fun _ _ h => h)
theorem RAt.mono {B' : Nat} (h : RAt w B rv E) (hB : B' ≤ B) : RAt w B' rv E := ⟨h.row.mono hB, fun e he => (h.bod e he).mono hB, h.rok, h.small⟩
theorem LAt.kept {T : Nat → Prop} (h : LAt w B l d nm rv E) (ho : Only T w w') (hT : ∀ k, LF l rv E k → ¬ T k) : LAt w' B l d nm rv E where
  cell := (ho.block l (lt_of_block h.cell) (hT l (.inl rfl))).trans h.cell
  ra := h.ra.kept ho fun k hk => hT k (.inr hk)
  bl := h.bl
theorem LAt.kb (h : LAt w B l d nm rv E) (hb : Below w.heap.size w w') : LAt w' B l d nm rv E := h.kept (T := fun _ => False) (Only.of_below hb) (fun _ _ h => h)
theorem LAt.lt (h : LAt w B l d nm rv E) : ∀ k, LF l rv E k → k < w.heap.size := by
  rintro k (rfl | hk | ⟨e, he, hk⟩)
  · exact lt_of_block h.cell
  · exact (h.ra.row.lt k hk).2
  · exact ((h.ra.bod e he).lt k hk).2
theorem LAt.ge (h : LAt w B l d nm rv E) : ∀ k, LF l rv E k → B ≤ k := by
  rintro k (rfl | hk | ⟨e, he, hk⟩)
  · exact h.bl
  · exact (h.ra.row.lt k hk).1
  · exact ((h.ra.bod e he).lt k hk).1
theorem LAt.ne_row (h : LAt w B l d nm rv E) : ¬ rv.ownBlock = some l := fun hk => by
  obtain ⟨cs, hcs⟩ := own_type h.ra.row hk
  rw [h.cell] at hcs
  simp at hcs
theorem LAt.ne_bod (h : LAt w B l d nm rv E) : ∀ e ∈ E, ¬ e.1.ownBlock = some l := fun e he hk => by
  obtain ⟨cs, hcs⟩ := own_type (h.ra.bod e he) hk
  rw [h.cell] at hcs
  simp at hcs
theorem RAt.row_bod (h : RAt w B rv E) {k : Nat} (hk : rv.ownBlock = some k) : ∀ e ∈ E, ¬ e.1.ownBlock = some k := fun e he h2 => by
  obtain ⟨cs, hcs⟩ := own_type h.row hk
  obtain ⟨cs', hcs'⟩ := own_type (h.bod e he) h2
  rw [hcs] at hcs'
  simp at hcs'
theorem LAt.c0 (h : LAt w B l d nm rv E) : w.cell? ⟨l, 0, none⟩ = some (.pointer (some ⟨d, 0, none⟩)) := by rw [cell_of_row w l 0 _ _ _ h.cell]; rfl
theorem LAt.c1 (h : LAt w B l d nm rv E) : w.cell? ⟨l, 1, none⟩ = some (stv nm) := by rw [cell_of_row w l 1 _ _ _ h.cell]; rfl
theorem LAt.c2 (h : LAt w B l d nm rv E) : w.cell? ⟨l, 2, none⟩ = some rv := by rw [cell_of_row w l 2 _ _ _ h.cell]; rfl
theorem LAt.fz (h : LAt w B l d nm rv E) (i : Nat) : w.frozen? ⟨l, i, none⟩ = false := by
  have h' := h.cell
  simp [World.frozen?, h']
theorem RAt.slice (h : RAt w B rv E) : ∃ p cap, rv = .slice p E.length cap := own_slice h.row
/-- The cell c of record i. -/
theorem RAt.at {g cap : Nat} (h : RAt w B (.slice (some ⟨g, 0, none⟩) E.length cap) E) {i c : Nat} (hi : i < E.length) {v : Value} (hv : (rrow (ends (rcs (E.take i))) E[i])[c]? = some v) (hc : c < 3) : w.cell? ⟨g, i * 3 + c, none⟩ = some v := by
  have h2 := h.row.cells (g := g) rfl (i * 3 + c) v (by rw [lrows_at _ _ _ _ hi hc, Nat.zero_add]; exact hv)
  rwa [Addr.add_lit, Nat.zero_add] at h2
end
/-- A log beside its disk: S the blocks of both. -/
structure DLx (W : World) (B d l : Nat) (S S0 : Nat → Prop) (s : St) (nm : Key) (rv : Value) (E : List Re) : Prop where
  ds : DS W B d S0 s
  log : LAt W B l d nm rv E
  out : ∀ k, LF l rv E k → ¬ S0 k
  s0 : ∀ k, S0 k → S k
  sl : ∀ k, LF l rv E k → S k
  lt : ∀ k, S k → k < W.heap.size
def DL (W : World) (B d l : Nat) (S : Nat → Prop) (s : St) (nm : Key) (R : List Rc) : Prop := ∃ S0 rv E, DLx W B d l S S0 s nm rv E ∧ rcs E = R
/-- Behind a call on a log. -/
def LPost (w : World) (B d l : Nat) (S : Nat → Prop) (s : St) (nm : Key) (R : List Rc) (w' : World) : Prop := ∃ S', DL w' B d l S' s nm R ∧ Only S w w' ∧ ∀ k, S' k → S k ∨ w.heap.size ≤ k
section
variable {w w' : World} {B d l : Nat} {S S0 : Nat → Prop} {s s' : St} {nm : Key} {rv : Value} {E : List Re} {R : List Rc}
theorem DLx.kept {T : Nat → Prop} (h : DLx w B d l S S0 s nm rv E) (ho : Only T w w') (hT : ∀ k, S k → ¬ T k) : DLx w' B d l S S0 s nm rv E where
  ds := h.ds.kept ho fun k hk _ => hT k (h.s0 k hk)
  log := h.log.kept ho fun k hk => hT k (h.sl k hk)
  out := h.out
  s0 := h.s0
  sl := h.sl
  lt := fun k hk => Nat.lt_of_lt_of_le (h.lt k hk) ho.size
theorem DL.kept {T : Nat → Prop} (h : DL w B d l S s nm R) (ho : Only T w w') (hT : ∀ k, S k → ¬ T k) : DL w' B d l S s nm R := by
  obtain ⟨S0, rv, E, h, e⟩ := h
  exact ⟨S0, rv, E, h.kept ho hT, e⟩
theorem DL.kb (h : DL w B d l S s nm R) (hb : Below w.heap.size w w') : DL w' B d l S s nm R := h.kept (T := fun _ => False) (Only.of_below hb) (fun _ _ h => h)
theorem DL.lt (h : DL w B d l S s nm R) : ∀ k, S k → k < w.heap.size := by
  obtain ⟨S0, rv, E, h, e⟩ := h
  exact h.lt
theorem LPost.same (h : DL w B d l S s nm R) (hb : Below w.heap.size w w') : LPost w B d l S s nm R w' := ⟨S, h.kb hb, Only.of_below hb, fun _ h => .inl h⟩
/-- The disk alone has turned. -/
theorem DLx.disk {S0' : Nat → Prop} (h : DLx w B d l S S0 s nm rv E) (hd : DS w' B d S0' s') (ho : Only S0 w w') (hs : ∀ k, S0' k → S0 k ∨ w.heap.size ≤ k) :
    DLx w' B d l (fun k => S k ∨ S0' k) S0' s' nm rv E where
  ds := hd
  log := h.log.kept ho h.out
  out := fun k hk h0 => (hs k h0).elim (h.out k hk) (fun e => by have := h.log.lt k hk; omega)
  s0 := fun k hk => .inr hk
  sl := fun k hk => .inl (h.sl k hk)
  lt := fun k hk => hk.elim (fun e => Nat.lt_of_lt_of_le (h.lt k e) ho.size) (fun e => by obtain ⟨c, L, P, hx⟩ := hd; exact hx.lt k e)
theorem DLx.disk' {S0' : Nat → Prop} (h : DLx w B d l S S0 s nm rv E) (hd : DS w' B d S0' s') (ho : Only S0 w w') (hs : ∀ k, S0' k → S0 k ∨ w.heap.size ≤ k) : LPost w B d l S s' nm (rcs E) w' :=
  ⟨_, ⟨S0', rv, E, h.disk hd ho hs, rfl⟩, ho.mono fun k _ e => h.s0 k e, fun k hk => hk.elim .inl (fun e => (hs k e).imp (h.s0 k) id)⟩
theorem LPost.trans {w1 w2 : World} {S1 : Nat → Prop} {s2 : St} {R2 : List Rc} (ho : Only S w w1) (hs : ∀ k, S1 k → S k ∨ w.heap.size ≤ k) (h : LPost w1 B d l S1 s2 nm R2 w2) : LPost w B d l S s2 nm R2 w2 := by
  obtain ⟨S2, h2, o2, s2⟩ := h
  refine ⟨S2, h2, ho.trans o2 (fun _ h => h) (fun k hk e => (hs k e).elim id (fun e => by omega)), fun k hk => (s2 k hk).elim (hs k) (fun e => .inr (Nat.le_trans ho.size e))⟩
end
end Go.Proofs.YtbpccbhlggcmfaaGreatDoor
namespace Go.Proofs.YtbpccbhlggcmfaaGreatDoor
open Go.RowKit
open Go.Maps

theorem lcell_kb {w w' : World} {a : Addr} {u : Value} (h : w.cell? a = some u) (hb : Below w.heap.size w w') : w'.cell? a = some u := by
  rw [World.cell?_of_block (w := w) (hb.block _ (World.block_lt_of_cell? w _ h))]; exact h
theorem end_to (w : World) (B : Nat) (rv : Value) (E : List Re) (h : RAt w B rv E) : Calls Tryz.prog 57 #[rv] w fun e w' => e = .returned (.int .i64 (ends (rcs E))) ∧ w = w' := by
  rcases List.eq_nil_or_concat E with rfl | ⟨E', e, he⟩
  · obtain ⟨p, cap, rfl⟩ := h.slice
    clear h
    go_enter Tryz.func57, Tryz.ntmps57
    go_wp2
    go_ret
    exact ⟨rfl, rfl⟩
  · have he : E = E' ++ [e] := by rw [he, List.concat_eq_append]
    subst he
    obtain ⟨g, cap, hv, _⟩ := h.row.form (by simp)
    subst hv
    have hl : (E' ++ [e]).length = E'.length + 1 := by simp
    have hc := h.at (i := E'.length) (c := 2) (v := .int .i64 ((ends (rcs (E' ++ [e])) : Nat) : Int)) (by rw [hl]; omega) (by
      simp only [List.take_left', List.getElem_concat_length, rrow, List.getElem?_cons_succ, List.getElem?_cons_zero, rcs_app]
      rw [show rcs [e] = [e.2] from rfl, ends_snoc]) (by omega)
    have hmm := h.many
    rw [hl] at hmm
    have hmb : (E'.length : Int) ≤ 111111111 := by omega
    rw [hl] at *
    generalize ends (rcs (E' ++ [e])) = u at *
    generalize E'.length = m at *
    have hm : (m : Int) + 1 ≠ 0 := by omega
    have hm1 : ((m : Int) + 1 == 0) = false := by simp; omega
    clear h hl hmm
    have hm0 : 0 ≤ (m : Int) := by omega
    have hwm : IntKind.i64.wrap (m : Int) = (m : Int) := IntWalk.i64_in _ (by omega)
    go_enter Tryz.func57, Tryz.ntmps57
    go_wp2
    go_ret
    exact ⟨rfl, rfl⟩
theorem len_to (w : World) (B l d : Nat) (nm : Key) (rv : Value) (E : List Re) (h : LAt w B l d nm rv E) : Calls Tryz.prog 28 #[.pointer (some ⟨l, 0, none⟩)] w fun e w' => e = .returned (.int .i64 (ends (rcs E))) ∧ w = w' := by
  have c2 := h.c2
  have HE := Lib.hid (end_to w B rv E h.ra)
  obtain ⟨p, cap, rfl⟩ := h.ra.slice
  clear h
  go_enter Tryz.func28, Tryz.ntmps28
  go_wp2_with fail
  refine HE.out.mono ?_
  rintro e w' ⟨rfl, rfl⟩
  go_wp2_with fail
  go_ret
  exact ⟨rfl, rfl⟩
theorem count_to (w : World) (B l d : Nat) (nm : Key) (rv : Value) (E : List Re) (h : LAt w B l d nm rv E) : Calls Tryz.prog 14 #[.pointer (some ⟨l, 0, none⟩)] w fun e w' => e = .returned (.int .i64 E.length) ∧ w = w' := by
  have c2 := h.c2
  obtain ⟨p, cap, rfl⟩ := h.ra.slice
  clear h
  go_enter Tryz.func14, Tryz.ntmps14
  go_wp2
  go_ret
  exact ⟨rfl, rfl⟩
/-- What Record answers. -/
def recR (R : List Rc) (k : Int) : Int × List Int × Bool := if k < 0 ∨ (R.length : Int) ≤ k then (0, [], false) else match R[k.toNat]? with | some r => (r.1, r.2, true) | none => (0, [], false)
def RecPost (w : World) (R : List Rc) (k : Int) (e : Ending) (w' : World) : Prop :=
  ∃ v, e = .returned (.tuple #[.int .i64 (recR R k).1, v, .bool (recR R k).2.2]) ∧ BOwn w' w.heap.size v (recR R k).2.1 ∧ Below w.heap.size w w'
set_option maxRecDepth 20000 in
set_option maxHeartbeats 1000000 in
theorem record_to (w : World) (B l d : Nat) (nm : Key) (rv : Value) (E : List Re) (k : Int) (h : LAt w B l d nm rv E) : Calls Tryz.prog 72 #[.pointer (some ⟨l, 0, none⟩), .int .i64 k] w (RecPost w (rcs E) k) := by
  have c2 := h.c2
  obtain ⟨p, cap, rfl⟩ := h.ra.slice
  by_cases h1 : k < 0
  · have HR : Hid (recR (rcs E) k = (0, [], false)) := Lib.hid (by unfold recR; rw [if_pos (.inl h1)])
    clear h
    go_enter Tryz.func72, Tryz.ntmps72
    go_wp2
    go_ret3
    unfold RecPost
    rw [HR.out]
    exact ⟨_, rfl, World.ownsRow_nil _ _ _ _, Below.refl _ _⟩
  by_cases h2 : (E.length : Int) ≤ k
  · have HR : Hid (recR (rcs E) k = (0, [], false)) := Lib.hid (by unfold recR; rw [if_pos (.inr (by rw [rcs_len]; exact h2))])
    clear h
    go_enter Tryz.func72, Tryz.ntmps72
    go_wp2
    go_ret3
    unfold RecPost
    rw [HR.out]
    exact ⟨_, rfl, World.ownsRow_nil _ _ _ _, Below.refl _ _⟩
  obtain ⟨i, rfl⟩ : ∃ i : Nat, k = i := ⟨k.toNat, by omega⟩
  have hi : i < E.length := by omega
  have HR : Hid (recR (rcs E) i = (E[i].2.1, E[i].2.2, true)) := Lib.hid (by
    unfold recR
    rw [if_neg (by rw [rcs_len]; omega), Int.toNat_natCast, show (rcs E)[i]? = some E[i].2 from by simp [rcs, hi]])
  obtain ⟨g, rfl⟩ : ∃ g, p = some ⟨g, 0, none⟩ := by
    rcases h.ra.row.2 with ⟨_, h0⟩ | ⟨g, cap', cur, he, _⟩
    · omega
    · cases he; exact ⟨g, rfl⟩
  have e0 := h.ra.at hi (c := 0) rfl (by omega)
  have e1 := h.ra.at hi (c := 1) rfl (by omega)
  have hb := h.ra.bod E[i] (List.getElem_mem hi)
  have hr := (h.ra.rok E[i] (List.getElem_mem hi)).2.2.1
  have hmm := h.ra.many
  obtain ⟨q, c1, hv⟩ := own_slice hb
  have HC := Lib.hid (clone_any w.drew E[i].1 E[i].2.2 (by omega) (Seen.own (w := w.drew) hb.drew))
  rw [hv] at HC e1
  have hiw : IntKind.i64.wrap (i : Int) = (i : Int) := IntWalk.i64_in _ (by omega)
  have hil : (i : Int) < E.length := by omega
  have hi0 : 0 ≤ (i : Int) := by omega
  generalize E[i] = ei at *
  generalize E.length = n at *
  rw [Nat.add_zero] at e0
  clear h hb hr hmm hv h1 h2
  go_enter Tryz.func72, Tryz.ntmps72
  go_wp2_with fail
  try simp only [List.append]
  refine wp_region_noPanic ?_
  refine wp_region_held_drew (S := (fun W => W.cell? ⟨l, 2, none⟩ = some (.slice (some ⟨g, 0, none⟩) n cap) ∧ W.cell? ⟨g, i * 3, none⟩ = some (.int .i64 ei.2.1) ∧ W.cell? ⟨g, i * 3 + 1, none⟩ = some (.slice q ei.2.2.length c1))) (by kernel_rfl) ⟨c2, e0, e1⟩ (fun hHeld => ?_)
  refine wpAnyH_take (i := 0) (v := ?_) (by simp only [List.getElem?_toArray, List.getElem?_cons_zero]; rfl) (by kernel_rfl) (by kernel_rfl) (by kernel_rfl) (fun _ _ _ h => h) (Or.inl ⟨by rfl, ?_⟩) (by assumption) ?_
  rotate_left
  · intro w hSw
    try dsimp only at hSw
    go_simp
    try with_reducible rfl
  try simp only [Act.put, List.setIfInBounds_toArray, List.set_cons_zero, List.set_cons_succ]
  refine wpAnyH_take (i := 1) (v := ?_) (by simp only [List.getElem?_toArray, List.getElem?_cons_succ, List.getElem?_cons_zero]; rfl) (by kernel_rfl) (by kernel_rfl) (by kernel_rfl) (fun _ _ _ h => h) (Or.inl ⟨by rfl, ?_⟩) (by assumption) ?_
  rotate_left
  · intro w hSw
    try dsimp only at hSw
    go_simp
    try with_reducible rfl
  try simp only [Act.put, List.setIfInBounds_toArray, List.set_cons_zero, List.set_cons_succ]
  refine wpAnyH_take (i := 2) (v := ?_) (by simp only [List.getElem?_toArray, List.getElem?_cons_succ, List.getElem?_cons_zero]; rfl) (by kernel_rfl) (by kernel_rfl) (by kernel_rfl) (fun _ _ _ h => h) (Or.inl ⟨by rfl, ?_⟩) (by assumption) ?_
  rotate_left
  · intro w hSw
    try dsimp only at hSw
    go_simp
    try with_reducible rfl
  try simp only [Act.put, List.setIfInBounds_toArray, List.set_cons_zero, List.set_cons_succ]
  refine wpAnyH_take (i := 3) (v := ?_) (by simp only [List.getElem?_toArray, List.getElem?_cons_succ, List.getElem?_cons_zero]; rfl) (by kernel_rfl) (by kernel_rfl) (by kernel_rfl) (fun _ _ _ h => h) (Or.inl ⟨by rfl, ?_⟩) (by assumption) ?_
  rotate_left
  · intro w hSw
    try dsimp only at hSw
    go_simp
    try with_reducible rfl
  try simp only [Act.put, List.setIfInBounds_toArray, List.set_cons_zero, List.set_cons_succ]
  refine wpAnyH_take (i := 4) (v := ?_) (by simp only [List.getElem?_toArray, List.getElem?_cons_succ, List.getElem?_cons_zero]; rfl) (by kernel_rfl) (by kernel_rfl) (by kernel_rfl) (fun _ _ _ h => h) (Or.inl ⟨by rfl, ?_⟩) (by assumption) ?_
  rotate_left
  · intro w hSw
    try dsimp only at hSw
    go_simp
    try with_reducible rfl
  try simp only [Act.put, List.setIfInBounds_toArray, List.set_cons_zero, List.set_cons_succ]
  refine wpAnyH_take (i := 5) (v := ?_) (by simp only [List.getElem?_toArray, List.getElem?_cons_succ, List.getElem?_cons_zero]; rfl) (by kernel_rfl) (by kernel_rfl) (by kernel_rfl) (fun _ _ _ h => h) (Or.inl ⟨by rfl, ?_⟩) (by assumption) ?_
  rotate_left
  · intro w hSw
    try dsimp only at hSw
    go_simp
    try with_reducible rfl
  try simp only [Act.put, List.setIfInBounds_toArray, List.set_cons_zero, List.set_cons_succ]
  refine wpAnyH_take (i := 6) (v := ?_) (by simp only [List.getElem?_toArray, List.getElem?_cons_succ, List.getElem?_cons_zero]; rfl) (by kernel_rfl) (by kernel_rfl) (by kernel_rfl) (fun _ _ _ h => h) (Or.inl ⟨by rfl, ?_⟩) (by assumption) ?_
  rotate_left
  · intro w hSw
    try dsimp only at hSw
    go_simp
    try with_reducible rfl
  try simp only [Act.put, List.setIfInBounds_toArray, List.set_cons_zero, List.set_cons_succ]
  refine wpAnyH_take (i := 7) (v := ?_) (by simp only [List.getElem?_toArray, List.getElem?_cons_succ, List.getElem?_cons_zero]; rfl) (by kernel_rfl) (by kernel_rfl) (by kernel_rfl) (fun _ _ _ h => h) (Or.inl ⟨by rfl, ?_⟩) (by assumption) ?_
  rotate_left
  · intro w hSw
    try dsimp only at hSw
    go_simp
    try with_reducible rfl
  try simp only [Act.put, List.setIfInBounds_toArray, List.set_cons_zero, List.set_cons_succ]
  refine wpAnyH_take (i := 8) (v := ?_) (by simp only [List.getElem?_toArray, List.getElem?_cons_succ, List.getElem?_cons_zero]; rfl) (by kernel_rfl) (by kernel_rfl) (by kernel_rfl) (fun _ _ _ h => h) (Or.inl ⟨by rfl, ?_⟩) (by assumption) ?_
  rotate_left
  · intro w hSw
    try dsimp only at hSw
    go_simp
    try with_reducible rfl
  try simp only [Act.put, List.setIfInBounds_toArray, List.set_cons_zero, List.set_cons_succ]
  refine wpAnyH_take (i := 9) (v := ?_) (by simp only [List.getElem?_toArray, List.getElem?_cons_succ, List.getElem?_cons_zero]; rfl) (by kernel_rfl) (by kernel_rfl) (by kernel_rfl) (fun _ _ _ h => h) (Or.inl ⟨by rfl, ?_⟩) (by assumption) ?_
  rotate_left
  · intro w hSw
    try dsimp only at hSw
    go_simp
    try with_reducible rfl
  try simp only [Act.put, List.setIfInBounds_toArray, List.set_cons_zero, List.set_cons_succ]
  refine wpAnyH_take (i := 10) (v := ?_) (by simp only [List.getElem?_toArray, List.getElem?_cons_succ, List.getElem?_cons_zero]; rfl) (by kernel_rfl) (by kernel_rfl) (by kernel_rfl) (fun _ _ _ h => h) (Or.inl ⟨by rfl, ?_⟩) (by assumption) ?_
  rotate_left
  · intro w hSw
    try dsimp only at hSw
    go_simp
    try with_reducible rfl
  try simp only [Act.put, List.setIfInBounds_toArray, List.set_cons_zero, List.set_cons_succ]
  refine wpAnyH_take (i := 11) (v := ?_) (by simp only [List.getElem?_toArray, List.getElem?_cons_succ, List.getElem?_cons_zero]; rfl) (by kernel_rfl) (by kernel_rfl) (by kernel_rfl) (fun _ _ _ h => h) (Or.inl ⟨by rfl, ?_⟩) (by assumption) ?_
  rotate_left
  · intro w hSw
    try dsimp only at hSw
    go_simp
    try with_reducible rfl
  try simp only [Act.put, List.setIfInBounds_toArray, List.set_cons_zero, List.set_cons_succ]
  refine wpAnyH_take (i := 12) (v := ?_) (by simp only [List.getElem?_toArray, List.getElem?_cons_succ, List.getElem?_cons_zero]; rfl) (by kernel_rfl) (by kernel_rfl) (by kernel_rfl) (fun _ _ _ h => h) (Or.inl ⟨by rfl, ?_⟩) (by assumption) ?_
  rotate_left
  · intro w hSw
    try dsimp only at hSw
    go_simp
    try with_reducible rfl
  try simp only [Act.put, List.setIfInBounds_toArray, List.set_cons_zero, List.set_cons_succ]
  refine wpAnyH_take (i := 13) (v := ?_) (by simp only [List.getElem?_toArray, List.getElem?_cons_succ, List.getElem?_cons_zero]; rfl) (by kernel_rfl) (by kernel_rfl) (by kernel_rfl) (fun _ _ _ h => h) (Or.inl ⟨by rfl, ?_⟩) (by assumption) ?_
  rotate_left
  · intro w hSw
    try dsimp only at hSw
    go_simp
    try with_reducible rfl
  try simp only [Act.put, List.setIfInBounds_toArray, List.set_cons_zero, List.set_cons_succ]
  refine wpAnyH_take (i := 14) (v := ?_) (by simp only [List.getElem?_toArray, List.getElem?_cons_succ, List.getElem?_cons_zero]; rfl) (by kernel_rfl) (by kernel_rfl) (by kernel_rfl) (fun _ _ _ h => h) (Or.inl ⟨by rfl, ?_⟩) (by assumption) ?_
  rotate_left
  · intro w hSw
    try dsimp only at hSw
    go_simp
    try with_reducible rfl
  try simp only [Act.put, List.setIfInBounds_toArray, List.set_cons_zero, List.set_cons_succ]
  refine wpAnyH_take (i := 15) (v := ?_) (by simp only [List.getElem?_toArray, List.getElem?_cons_succ, List.getElem?_cons_zero]; rfl) (by kernel_rfl) (by kernel_rfl) (by kernel_rfl) (fun _ _ _ h => h) (Or.inl ⟨by rfl, ?_⟩) (by assumption) ?_
  rotate_left
  · intro w hSw
    try dsimp only at hSw
    go_simp
    try with_reducible rfl
  try simp only [Act.put, List.setIfInBounds_toArray, List.set_cons_zero, List.set_cons_succ]
  refine wpAnyH_ready (rs := [16]) (by kernel_rfl) (by simp) ?_
  refine AllReadyH.cons (by simp only [List.getElem?_toArray, List.getElem?_cons_succ, List.getElem?_cons_zero]; rfl) (fun K hK => ?_) AllReadyH.nil
  go_simp
  refine HC.out.mono ?_
  rintro e w2 ⟨v, rfl, o2, b2⟩
  have O2 := Lib.hid o2
  have B2 := Lib.hid b2
  have q2 : w2.cell? ⟨l, 2, none⟩ = some (.slice (some ⟨g, 0, none⟩) n cap) ∧ w2.cell? ⟨g, i * 3, none⟩ = some (.int .i64 ei.2.1) ∧ w2.cell? ⟨g, i * 3 + 1, none⟩ = some (.slice q ei.2.2.length c1) := ⟨lcell_kb (w := w.drew) c2 b2, lcell_kb (w := w.drew) e0 b2, lcell_kb (w := w.drew) e1 b2⟩
  clear o2 b2
  go_wp2_with fail
  refine hK.out _ _ q2 (fun hHeld => ?_)
  clear hK K
  try simp only [Act.put, List.setIfInBounds_toArray, List.set_cons_zero, List.set_cons_succ]
  refine wpAnyH_take (i := 17) (v := ?_) (by simp only [List.getElem?_toArray, List.getElem?_cons_succ, List.getElem?_cons_zero]; rfl) (by kernel_rfl) (by kernel_rfl) (by kernel_rfl) (fun _ _ _ h => h) (Or.inl ⟨by rfl, ?_⟩) (by assumption) ?_
  rotate_left
  · intro w hSw
    try dsimp only at hSw
    go_simp
    try with_reducible rfl
  try simp only [Act.put, List.setIfInBounds_toArray, List.set_cons_zero, List.set_cons_succ]
  refine wpAnyH_take (i := 18) (v := ?_) (by simp only [List.getElem?_toArray, List.getElem?_cons_succ, List.getElem?_cons_zero]; rfl) (by kernel_rfl) (by kernel_rfl) (by kernel_rfl) (fun _ _ _ h => h) (Or.inl ⟨by rfl, ?_⟩) (by assumption) ?_
  rotate_left
  · intro w hSw
    try dsimp only at hSw
    go_simp
    try with_reducible rfl
  try simp only [Act.put, List.setIfInBounds_toArray, List.set_cons_zero, List.set_cons_succ]
  refine wpAnyH_take (i := 19) (v := ?_) (by simp only [List.getElem?_toArray, List.getElem?_cons_succ, List.getElem?_cons_zero]; rfl) (by kernel_rfl) (by kernel_rfl) (by kernel_rfl) (fun _ _ _ h => h) (Or.inl ⟨by rfl, ?_⟩) (by assumption) ?_
  rotate_left
  · intro w hSw
    try dsimp only at hSw
    go_simp
    try with_reducible rfl
  try simp only [Act.put, List.setIfInBounds_toArray, List.set_cons_zero, List.set_cons_succ]
  refine wpAnyH_done (by kernel_rfl) ?_ _
  refine NoPanic.normal ?_
  go_wp2_with fail
  go_ret3
  unfold RecPost
  rw [HR.out]
  exact ⟨v, rfl, O2.out, ⟨B2.out.os, B2.out.tape, B2.out.output, B2.out.size, B2.out.block⟩⟩
end Go.Proofs.YtbpccbhlggcmfaaGreatDoor
namespace Go.Proofs.YtbpccbhlggcmfaaGreatDoor
open Go.RowKit
open Go.Maps

theorem rinfo : (Tryz.prog.info? 112).map (fun i => (i.zero, i.size, i.bytes)) = some (some (.agg #[.int .i64 0, .slice none 0 0, .int .i64 0]), 3, 40) := by kernel_rfl
theorem rrow_one (a : Nat) {e : Re} (h : e.1.oneCell' = true) : ∀ u ∈ rrow a e, u.oneCell' = true := by
  intro u hu
  simp only [rrow, List.mem_cons, List.not_mem_nil, or_false] at hu
  rcases hu with rfl | rfl | rfl
  all_goals first | rfl | exact h
theorem own_one {w : World} {B e size n : Nat} {v : Value} {xs : List Value} (h : w.ownsRow B e size v n xs) : v.oneCell' = true := by
  obtain ⟨p, cap, rfl⟩ := own_slice h; rfl
/-- One more record behind the others. -/
theorem RAt.snoc {w w1 : World} {B g cap : Nat} {rv : Value} {E : List Re} {e : Re} (h : RAt w B rv E) (he : BOwn w B e.1 e.2.2) (hr : Rok e.2) (hs : ends (rcs (E ++ [e])) ≤ 1000000000)
    (hown : w1.ownsRow B 112 3 (.slice (some ⟨g, 0, none⟩) (E.length + 1) cap) (E.length + 1) (lrows 0 E ++ rrow (ends (rcs E)) e)) (ho : Only (fun k => rv.ownBlock = some k) w w1) : RAt w1 B (.slice (some ⟨g, 0, none⟩) (E.length + 1) cap) (E ++ [e]) where
  row := by
    rw [show (E ++ [e]).length = E.length + 1 from by simp, lrows_app, Nat.zero_add, lrows_one]
    exact hown
  bod := fun x hx => by
    rcases List.mem_append.1 hx with hx | hx
    · exact own_kept (h.bod x hx) ho fun k hk e => h.row_bod e x hx hk
    · rw [List.mem_singleton.1 hx]
      refine own_kept he ho fun k hk e2 => ?_
      obtain ⟨cs, hcs⟩ := own_type h.row e2
      obtain ⟨cs', hcs'⟩ := own_type he hk
      rw [hcs] at hcs'
      simp at hcs'
  rok := fun x hx => by
    rcases List.mem_append.1 hx with hx | hx
    · exact h.rok x hx
    · rw [List.mem_singleton.1 hx]; exact hr
  small := hs
theorem dec_fits {n : Nat} (h : n ≤ 111111111) : n + 1 ≤ maxLen ∧ (n + 1) * 40 ≤ 140737488355328 := by unfold maxLen; omega
/-- What decode answers. -/
def DecPost (w : World) (l : List Int) (e : Ending) (w' : World) : Prop :=
  ∃ rv E, e = .returned (.tuple #[rv, errOf (dec l).2]) ∧ RAt w' w.heap.size rv E ∧ rcs E = (dec l).1 ∧ Below w.heap.size w w'
/-- What its loop keeps. -/
structure DcI (w wr : World) (rv : Value) (l : List Int) (E : List Re) : Prop where
  ra : RAt wr w.heap.size rv E
  ahead : dec l = (rcs E ++ (dec (l.drop (ends (rcs E)))).1, (dec (l.drop (ends (rcs E)))).2)
  le : ends (rcs E) ≤ l.length
  bel : Below w.heap.size w wr
theorem dec_step {l : List Int} {m : Nat} {kk sz : Int} {xs : List Int} (ok : Okb (l.drop m)) (hm : m < l.length) (hx : nxt (l.drop m) = (kk, xs, sz, 0)) : dec (l.drop m) = ((kk, xs) :: (dec (l.drop (m + (9 + xs.length)))).1, (dec (l.drop (m + (9 + xs.length)))).2) := by
  have hs := (nxt_size ok (by rw [hx])).1
  rw [hx] at hs
  simp only at hs
  rw [dec_good ok (by intro e; have := congrArg List.length e; rw [List.length_drop] at this; simp at this; omega) (by rw [hx]), hx]
  simp only [List.drop_drop]
  rw [show sz.toNat = 9 + xs.length from by omega]
theorem errOf_nz {c : Int} (h : ¬ c = 0) : errOf c = kind c := by unfold errOf; rw [if_neg h]
theorem seenr_drop {w : World} {l : List Int} {g o cap : Nat} (h : SeenR w (.slice (some ⟨g, o, none⟩) l.length cap) l) (m : Nat) (hm : m ≤ l.length) : SeenR w (.slice (some ⟨g, o + m, none⟩) (l.length - m) (cap - m)) (l.drop m) := by
  rcases h with ⟨h, _⟩ | ⟨g', o', cap', h, h2, hu⟩
  · cases h
  · cases h
    have e : (l.drop m).length = l.length - m := List.length_drop
    refine .inr ⟨g, o + m, cap - m, by rw [e], by rw [e]; omega, fun j u hj => ?_⟩
    have := hu (m + j) u (by simpa [us, List.getElem?_drop] using hj)
    rwa [← Nat.add_assoc] at this
set_option maxRecDepth 20000 in
set_option maxHeartbeats 4000000 in
theorem decode_to (w : World) (v : Value) (l : List Int) (ok : Okb l) (hl : l.length ≤ 100000000) (hs : SeenR w v l) : Calls Tryz.prog 24 #[v] w (DecPost w l) := by
  obtain ⟨i0, hi0, hz0, hz1, hz2⟩ := info_parts rinfo
  rcases hs with ⟨rfl, rfl⟩ | ⟨g, o, cap, rfl, hc, hu⟩
  · go_enter Tryz.func24, Tryz.ntmps24
    go_wp2
    refine wp_loop_rounds 1 ?_
    rw [rounds_succ]
    go_wp2
    go_ret2
    exact ⟨_, [], rfl, RAt.nil _ _, rfl, Below.refl _ _⟩
  have HS : Hid (DcI w w (.slice none 0 0) l []) := Lib.hid ⟨RAt.nil _ _, rfl, Nat.zero_le _, Below.refl _ _⟩
  have hsw : SeenR w (.slice (some ⟨g, o, none⟩) l.length cap) l := .inr ⟨g, o, cap, rfl, hc, hu⟩
  have OK := Lib.hid ok
  obtain ⟨n, hn⟩ : ∃ n, n = l.length := ⟨_, rfl⟩
  rw [← hn] at hl hc
  rw [← hn] at hsw ⊢
  have HN := Lib.hid hn
  have HSW := Lib.hid hsw
  clear hu hn ok hsw
  go_enter Tryz.func24, Tryz.ntmps24
  go_wp2_with fail
  go_loopw [4, 5] (fun s4 s5 wr => ∃ (E : List Re) (p : Option Addr) (m c m2 : Nat), s4 = .slice p m2 c ∧ m2 = E.length ∧ m = ends (rcs E) ∧ s5 = .int .i64 m ∧ m ≤ n ∧ Hid (DcI w wr (.slice p m2 c) l E)) (fun _ s5 _ => n - (intOf s5).toNat)
  case atStart => exact ⟨[], none, 0, 0, 0, rfl, rfl, rfl, rfl, Nat.zero_le _, HS⟩
  case round =>
    obtain ⟨E, p, m, c, m2, rfl, hm2, hm, rfl, hmn, HI⟩ := hrel
    clear HS
    have HM := Lib.hid hm
    have HM2 := Lib.hid hm2
    by_cases hlt : m < n
    · have hlt' : (m : Int) < n := by omega
      have hm0 : 0 ≤ (m : Int) := by omega
      have hmn' : (m : Int) ≤ n := by omega
      have hmc : (m : Int) ≤ cap := by omega
      obtain ⟨kk, xs, sz, er, hnx⟩ : ∃ kk xs sz er, nxt (l.drop m) = (kk, xs, sz, er) := ⟨_, _, _, _, rfl⟩
      have HOD : Hid (Okb (l.drop m)) := Lib.hid (OK.out.drop m)
      have hsd : SeenR wr (.slice (some ⟨g, o + m, none⟩) (n - m) (cap - m)) (l.drop m) := by
        have h1 := HSW.out.kb HI.out.bel
        rw [HN.out] at h1 ⊢
        exact seenr_drop h1 m (by rw [← HN.out]; exact hmn)
      have HX := Lib.hid (next_own wr _ (l.drop m) hnx HOD.out (by rw [List.length_drop, ← HN.out]; omega) hsd)
      have HNX := Lib.hid hnx
      clear hsd hnx hm hm2
      by_cases he : er = 0
      · have hsz := nxt_size HOD.out (by rw [HNX.out]; exact he)
        rw [HNX.out] at hsz
        simp only at hsz
        have HSZ := Lib.hid hsz.2.2
        have HSL : Hid (sz = 9 + (xs.length : Int)) := Lib.hid hsz.1
        have hln : m + (9 + xs.length) ≤ n := by
          have h1 := hsz.1
          have h2 := hsz.2.1
          rw [List.length_drop, ← HN.out] at h2
          omega
        clear hsz
        obtain ⟨z, hz⟩ : ∃ z : Nat, z = m + (9 + xs.length) := ⟨_, rfl⟩
        have hz2' : (m : Int) + sz = z := by rw [HSL.out, hz]; omega
        have hz63 : IntKind.i64.wrap ((m : Int) + sz) = z := by rw [hz2']; exact IntWalk.i64_in _ (by omega)
        have HZ := Lib.hid hz
        have hzn : z ≤ n := by rw [hz]; exact hln
        have HXL : Hid (m2 ≤ 111111111) := Lib.hid (by have := HI.out.ra.many; rw [HM2.out]; exact this)
        subst he
        rw [show errOf 0 = .nilIface from rfl] at HX
        clear hz hz2'
        go_wp2_with fail
        refine HX.out.mono ?_
        rintro e w2 ⟨u, rfl, ou, b2⟩
        have B2 := Lib.hid (HI.out.bel.trans (b2.mono HI.out.bel.size))
        have R2 : Hid (RAt w2 w.heap.size (.slice p m2 c) E) := Lib.hid (HI.out.ra.kb b2)
        have U2 : Hid (BOwn w2 w.heap.size u xs) := Lib.hid (ou.mono HI.out.bel.size)
        obtain ⟨pu, cu, rfl⟩ := own_slice ou
        clear ou b2 HX
        have HN2 : Hid (∀ j v, ([.int .i64 kk, .slice pu xs.length cu, .int .i64 z] : List Value)[j]? = some v → (w2.alloc (.cells #[.int .i64 kk, .slice pu xs.length cu, .int .i64 z] 112)).cell? ((⟨w2.heap.size, 0, none⟩ : Addr).add j) = some v) := Lib.hid (World.news_of_block (cs := #[.int .i64 kk, .slice pu xs.length cu, .int .i64 z]) (t := 112) (fr := (0, 0)) (heap_alloc_new w2 _))
        have R3 : Hid (RAt (w2.alloc (.cells #[.int .i64 kk, .slice pu xs.length cu, .int .i64 z] 112)) w.heap.size (.slice p m2 c) E) := Lib.hid (R2.out.kb ((Below.refl _ w2).alloc (Nat.le_refl _) _))
        have U3 : Hid (BOwn (w2.alloc (.cells #[.int .i64 kk, .slice pu xs.length cu, .int .i64 z] 112)) w.heap.size (.slice pu xs.length cu) xs) := Lib.hid (U2.out.alloc _)
        have B3 : Hid (Below w.heap.size w (w2.alloc (.cells #[.int .i64 kk, .slice pu xs.length cu, .int .i64 z] 112))) := Lib.hid (B2.out.alloc B2.out.size _)
        have HRW : Hid (lrows 0 E ++ [.int .i64 kk, .slice pu xs.length cu, .int .i64 z] = lrows 0 E ++ rrow (ends (rcs E)) (.slice pu xs.length cu, kk, xs)) := Lib.hid (by rw [rrow, ← HM.out, HZ.out])
        have HRO := Lib.hid (R3.out.row)
        rw [← HM2.out] at HRO
        have HFT := Lib.hid (dec_fits HXL.out)
        have HB2 := Lib.hid B3.out.size
        go_wp2_with (refine wpList_append_lies _ (by rfl) _ _ _ (by rfl) w.heap.size 112 i0 _ 3 40 Tryz.underlying74 hi0 hz0 hz1 hz2 rfl (by omega) (.slice p m2 c) m2 (lrows 0 E) (by rfl) HRO.out ⟨w2.heap.size, 0, none⟩ 1 1 [.int .i64 kk, .slice pu xs.length cu, .int .i64 z] (by rfl) (by rfl) HN2.out (by simp [Value.oneCell']) (by decide) HFT.out.1 HFT.out.2 HB2.out _ rfl ?_; intro gg cc w4 own4 grow4 hat4 hlt4)
        have o4 := (Only.refl (fun k => (Value.slice p m2 c).ownBlock = some k) _).grown grow4 (fun k _ e => e)
        rw [HRW.out] at own4
        have HR4 := Lib.hid (R3.out.snoc (e := (.slice pu xs.length cu, kk, xs)) U3.out HSZ.out (by rw [rcs_app, show rcs [(Value.slice pu xs.length cu, kk, xs)] = [(kk, xs)] from rfl, ends_snoc, ← HM.out]; simp only; omega) (by rw [← HM2.out]; exact own4) o4)
        rw [← HM2.out] at HR4
        have HB4 := Lib.hid (B3.out.trans (o4.below HB2.out (fun k hk => (R2.out.row.lt k hk).1)))
        refine ⟨⟨E ++ [(.slice pu xs.length cu, kk, xs)], some ⟨gg, 0, none⟩, z, cc, m2 + 1, rfl, by rw [HM2.out]; simp, by rw [rcs_app, show rcs [(Value.slice pu xs.length cu, kk, xs)] = [(kk, xs)] from rfl, ends_snoc, ← HM.out]; exact HZ.out, rfl, hzn, Lib.hid ⟨HR4.out, ?_, ?_, HB4.out⟩⟩, ?_⟩
        · have h1 := HI.out.ahead
          rw [← HM.out, dec_step HOD.out (by rw [← HN.out]; exact hlt) HNX.out, ← HZ.out] at h1
          rw [rcs_app, show rcs [(Value.slice pu xs.length cu, kk, xs)] = [(kk, xs)] from rfl, ends_snoc, ← HM.out]
          simp only
          rw [← HZ.out, List.append_assoc]
          exact h1
        · rw [rcs_app, show rcs [(Value.slice pu xs.length cu, kk, xs)] = [(kk, xs)] from rfl, ends_snoc, ← HM.out, ← HN.out]
          simp only
          omega
        · have hz0 := HZ.out
          simp [intOf]; omega
      · have HD : Hid (dec l = (rcs E, er)) := Lib.hid (by
          have h1 := HI.out.ahead
          rw [← HM.out, dec_bad (l := l.drop m) (by intro e; have := congrArg List.length e; rw [List.length_drop, ← HN.out] at this; simp at this; omega) (by rw [HNX.out]; exact he), HNX.out, List.append_nil] at h1
          exact h1)
        rw [errOf_nz he] at HX
        clear hlt'
        go_wp2_with fail
        refine HX.out.mono ?_
        rintro e w2 ⟨u, rfl, ou, b2⟩
        have B2 := Lib.hid (HI.out.bel.trans (b2.mono HI.out.bel.size))
        have R2 : Hid (RAt w2 w.heap.size (.slice p m2 c) E) := Lib.hid (HI.out.ra.kb b2)
        obtain ⟨pu, cu, rfl⟩ := own_slice ou
        clear ou b2 HX
        go_wp2_with fail
        go_ret2
        exact ⟨.slice p m2 c, E, by rw [HD.out]; exact (congrArg (fun x => Ending.returned (.tuple #[.slice p m2 c, x])) (errOf_nz he)).symm, R2.out, by rw [HD.out], B2.out⟩
    · have hge : ¬ (m : Int) < n := by omega
      have HD : Hid (dec l = (rcs E, 0)) := Lib.hid (by
        have h1 := HI.out.ahead
        rw [← HM.out, show l.drop m = [] from List.drop_eq_nil_iff.2 (by rw [← HN.out]; omega), dec_nil, List.append_nil] at h1
        exact h1)
      clear hm hm2
      go_wp2_with fail
      go_ret2
      exact ⟨_, E, by rw [HD.out]; rfl, HI.out.ra, by rw [HD.out], HI.out.bel⟩
end Go.Proofs.YtbpccbhlggcmfaaGreatDoor
namespace Go.Proofs.YtbpccbhlggcmfaaGreatDoor
open Go.RowKit
open Go.Maps

def addS (s : St) (nm : Key) (R : List Rc) (k : Int) (x : List Int) : Int × St × List Rc :=
  if k < 1 ∨ 255 < k ∨ 1048576 < x.length then (1, s, R) else if (s.append nm (frm k x)).1 = 0 then (0, (s.append nm (frm k x)).2, R ++ [(k, x)]) else ((s.append nm (frm k x)).1, (s.append nm (frm k x)).2, R)
def AddPost (w : World) (B d l : Nat) (S : Nat → Prop) (nm : Key) (r : Int × St × List Rc) (e : Ending) (w' : World) : Prop := e = .returned (enoOf r.1) ∧ LPost w B d l S r.2.1 nm r.2.2 w'
theorem enoOf_nz {k : Int} (h : ¬ k = 0) : enoOf k = eno k := if_neg h
theorem RAt.ne {w : World} {B l : Nat} {rv : Value} {E : List Re} {cs : Array Value} {fr : Nat × Nat} (h : RAt w B rv E) (hl : w.heap[l]? = some (.cells cs 81 fr)) : ∀ k, (rv.ownBlock = some k ∨ ∃ e ∈ E, e.1.ownBlock = some k) → k ≠ l := by
  rintro k (hk | ⟨e, he, hk⟩) rfl
  · obtain ⟨cs', hcs⟩ := own_type h.row hk
    rw [hl] at hcs
    simp at hcs
  · obtain ⟨cs', hcs⟩ := own_type (h.bod e he) hk
    rw [hl] at hcs
    simp at hcs
/-- What is left of the log when one more record stands behind the others. -/
theorem add_end {w w2 W4 w5 : World} {B d l gg cc H : Nat} {S S0 S2 : Nat → Prop} {s s2 : St} {nm : Key} {rv v3 : Value} {E : List Re} {k : Int} {x : List Int} (HD : DLx w B d l S S0 s nm rv E) (HO2 : Only S0 w w2) (HX4 : DLx W4 B d l (fun k => S k ∨ S2 k) S2 s2 nm rv E)
    (HS2 : ∀ k, S2 k → S0 k ∨ w.heap.size ≤ k) (h2 : ∀ k, S2 k → k < w2.heap.size) (HB4 : Below w2.heap.size w2 W4) (hv : BOwn W4 w2.heap.size v3 x) (hr : Rok (k, x)) (hs : ends (rcs E) ≤ 900000000)
    (own5 : w5.ownsRow B 112 3 (.slice (some ⟨gg, 0, none⟩) (E.length + 1) cc) (E.length + 1) (lrows 0 E ++ rrow (ends (rcs E)) (v3, k, x))) (o5 : Only (fun k => rv.ownBlock = some k) W4 w5) (hat : rv.ownBlock = some gg ∨ gg = H) (hH : w2.heap.size ≤ H) (hlt : gg < w5.heap.size) :
    LPost w B d l S s2 nm (rcs E ++ [(k, x)]) (w5.setCell ⟨l, 2, none⟩ (.slice (some ⟨gg, 0, none⟩) (E.length + 1) cc)) := by
  have hB : B ≤ w2.heap.size := Nat.le_trans HD.log.bl (Nat.le_trans (Nat.le_of_lt (lt_of_block HD.log.cell)) HO2.size)
  have hR5 := HX4.log.ra.snoc (e := (v3, k, x)) (hv.mono hB) hr (by rw [rcs_app, show rcs [(v3, k, x)] = [(k, x)] from rfl, ends_snoc]; have := hr.2.2.1; simp only at this ⊢; omega) own5 o5
  have hl5 : w5.heap[l]? = _ := (o5.block l (lt_of_block HX4.log.cell) HX4.log.ne_row).trans HX4.log.cell
  have o6 : Only (fun j => j = l ∨ rv.ownBlock = some j) W4 (w5.setCell ⟨l, 2, none⟩ (.slice (some ⟨gg, 0, none⟩) (E.length + 1) cc)) := (o5.mono (fun _ _ e => .inr e)).one (.inl rfl) _
  have hne := hR5.ne hl5
  have o61 : Only (fun j => j = l) w5 (w5.setCell ⟨l, 2, none⟩ (.slice (some ⟨gg, 0, none⟩) (E.length + 1) cc)) := (Only.refl _ _).one (S := fun j => j = l) rfl _
  have hv5 : ∀ j, v3.ownBlock = some j → w2.heap.size ≤ j ∧ j < w5.heap.size := fun j hj => ⟨(hv.lt j hj).1, Nat.lt_of_lt_of_le (hv.lt j hj).2 o5.size⟩
  have hgg : (S gg ∨ w2.heap.size ≤ gg) ∧ ¬ S2 gg := by
    rcases hat with e | e
    · exact ⟨.inl (HD.sl gg (.inr (.inl e))), HX4.out gg (.inr (.inl e))⟩
    · exact ⟨.inr (by omega), fun h => by have := h2 gg h; omega⟩
  have hsz : (w5.setCell ⟨l, 2, none⟩ (.slice (some ⟨gg, 0, none⟩) (E.length + 1) cc)).heap.size = w5.heap.size := by simp [World.setCell]
  refine ⟨fun j => S j ∨ S2 j ∨ j = gg ∨ v3.ownBlock = some j, ⟨S2, .slice (some ⟨gg, 0, none⟩) (E.length + 1) cc, E ++ [(v3, k, x)], {
    ds := HX4.ds.kept o6 fun j hj _ e => HX4.out j (e.elim (fun e => .inl e) (fun e => .inr (.inl e))) hj
    log := ⟨Lib.heap_setCell_same hl5 _, hR5.kept o61 hne, HX4.log.bl⟩
    out := ?_
    s0 := fun j hj => .inr (.inl hj)
    sl := ?_
    lt := ?_ }, by rw [rcs_app]; rfl⟩, ?_, ?_⟩
  · rintro j (rfl | hj | ⟨e, he, hj⟩)
    · exact HX4.out _ (.inl rfl)
    · simp only [Value.ownBlock, Option.some.injEq] at hj
      subst hj
      exact hgg.2
    · rcases List.mem_append.1 he with he | he
      · exact HX4.out j (.inr (.inr ⟨e, he, hj⟩))
      · rw [List.mem_singleton.1 he] at hj
        intro h
        have h1 := h2 j h
        have h3 := (hv5 j hj).1
        omega
  · rintro j (rfl | hj | ⟨e, he, hj⟩)
    · exact .inl (HD.sl _ (.inl rfl))
    · simp only [Value.ownBlock, Option.some.injEq] at hj
      subst hj
      exact .inr (.inr (.inl rfl))
    · rcases List.mem_append.1 he with he | he
      · exact .inl (HD.sl j (.inr (.inr ⟨e, he, hj⟩)))
      · rw [List.mem_singleton.1 he] at hj
        exact .inr (.inr (.inr hj))
  · intro j hj
    rw [hsz]
    rcases hj with hj | hj | rfl | hj
    · exact Nat.lt_of_lt_of_le (HX4.lt j (.inl hj)) o5.size
    · exact Nat.lt_of_lt_of_le (HX4.lt j (.inr hj)) o5.size
    · exact hlt
    · exact (hv5 j hj).2
  · have a1 : Only S w w2 := HO2.mono fun j _ e => HD.s0 j e
    have a2 : Only S w W4 := a1.trans (Only.of_below HB4 (S := fun _ => False)) (fun _ h => h) (fun _ _ h => h.elim)
    exact a2.trans o6 (fun _ h => h) (fun j _ e => e.elim (fun e => HD.sl j (.inl e)) (fun e => HD.sl j (.inr (.inl e))))
  · intro j hj
    have hw2 := HO2.size
    rcases hj with hj | hj | rfl | hj
    · exact .inl hj
    · exact (HS2 j hj).imp (HD.s0 j) id
    · exact hgg.1.imp id (fun e => by omega)
    · exact .inr (by have := (hv5 j hj).1; omega)
set_option maxRecDepth 20000 in
set_option maxHeartbeats 4000000 in
theorem add_to (w : World) (B d l : Nat) (S : Nat → Prop) (s : St) (nm : Key) (R : List Rc) (k : Int) (v : Value) (x : List Int) (h : DL w B d l S s nm R) (hw : s.works ≤ 900000000) (hfu : s.fuse < 9223372036854775808) (hnm : nm.length ≤ 281474976710656) (ok : Okb x) (hx : Seen w v x) (hxo : ∀ j, v.ownBlock = some j → ¬ S j) (hxl : x.length ≤ 140737488351232) (hR : ends R ≤ 900000000) :
    Calls Tryz.prog 30 #[.pointer (some ⟨l, 0, none⟩), .int .i64 k, v] w (AddPost w B d l S nm (addS s nm R k x)) := by
  obtain ⟨S0, rv, E, hd, rfl⟩ := h
  obtain ⟨a, cap, rfl⟩ := len_val hx
  by_cases hb : k < 1 ∨ 255 < k ∨ 1048576 < x.length
  · have HA : Hid (addS s nm (rcs E) k x = (1, s, rcs E)) := Lib.hid (by unfold addS; rw [if_pos hb])
    have HL := Lib.hid (lay_no w k a x.length cap hb)
    have HP : Hid (LPost w B d l S s nm (rcs E) w) := Lib.hid (LPost.same ⟨S0, rv, E, hd, rfl⟩ (Below.refl _ _))
    clear hd hb hx
    go_enter Tryz.func30, Tryz.ntmps30
    go_wp2_with fail
    refine HL.out.mono ?_
    rintro e w' ⟨rfl, rfl⟩
    go_wp2_with fail
    go_ret
    exact ⟨by rw [HA.out]; exact eno_1, by rw [HA.out]; exact HP.out⟩
  have hk1 : 1 ≤ k := by omega
  have hk2 : k ≤ 255 := by omega
  have hx1 : x.length ≤ 1048576 := by omega
  have HD := Lib.hid hd
  have HL := Lib.hid (lay_yes w k _ x hk1 hk2 ok hx1 hx)
  have HRK : Hid (Rok (k, x)) := Lib.hid ⟨hk1, hk2, hx1, ok⟩
  have HX := Lib.hid hx
  have HXO := Lib.hid hxo
  have HAD : Hid (addS s nm (rcs E) k x = if (s.append nm (frm k x)).1 = 0 then (0, (s.append nm (frm k x)).2, rcs E ++ [(k, x)]) else ((s.append nm (frm k x)).1, (s.append nm (frm k x)).2, rcs E)) := Lib.hid (by unfold addS; rw [if_neg hb])
  clear hd hb hx hxo ok
  go_enter Tryz.func30, Tryz.ntmps30
  go_wp2_with fail
  refine HL.out.mono ?_
  rintro e w1 ⟨u, rfl, ou, b1⟩
  obtain ⟨fl, hfl⟩ : ∃ fl, fl = (frm k x).length := ⟨_, rfl⟩
  have HFL : Hid (fl = 9 + x.length) := Lib.hid (by rw [hfl, frm_len])
  have HD1 : Hid (DLx w1 B d l S S0 s nm rv E) := Lib.hid (HD.out.kept (T := fun _ => False) (Only.of_below b1) (fun _ _ h => h))
  obtain ⟨pu, cu, rfl⟩ := own_slice ou
  have HAP := Lib.hid (append_to w1.drew B d S0 s nm (.slice pu (frm k x).length cu) (frm k x) (HD1.out.ds.kept (T := fun _ => False) ⟨rfl, rfl, rfl, Nat.le_refl _, fun _ _ _ => rfl⟩ (fun _ _ _ h => h)) hw hfu hnm (Seen.own (w := w1.drew) ou.drew) (fun j hj hs => by have h1 := (ou.lt j hj).1; have h2 := HD.out.lt j (HD.out.s0 j hs); omega) (by rw [frm_len]; omega))
  rw [← hfl] at HAP ⊢
  have HU1 := Lib.hid ou.drew
  have B1 := Lib.hid b1
  have c0 := HD1.out.log.c0
  have c1 := HD1.out.log.c1
  clear ou b1 HL hfl
  go_wp2_with fail
  try simp only [List.append]
  refine wp_region_noPanic ?_
  refine wp_region_held_drew (S := (fun W => W.cell? ⟨l, 0, none⟩ = some (.pointer (some ⟨d, 0, none⟩)) ∧ W.cell? ⟨l, 1, none⟩ = some (stv nm))) (by kernel_rfl) ⟨c0, c1⟩ (fun hHeld => ?_)
  refine wpAnyH_take (i := 0) (v := ?_) (by simp only [List.getElem?_toArray, List.getElem?_cons_zero]; rfl) (by kernel_rfl) (by kernel_rfl) (by kernel_rfl) (fun _ _ _ h => h) (Or.inl ⟨by rfl, ?_⟩) (by assumption) ?_
  rotate_left
  · intro w hSw
    try dsimp only at hSw
    go_simp
    try with_reducible rfl
  try simp only [Act.put, List.setIfInBounds_toArray, List.set_cons_zero, List.set_cons_succ]
  refine wpAnyH_take (i := 1) (v := ?_) (by simp only [List.getElem?_toArray, List.getElem?_cons_succ, List.getElem?_cons_zero]; rfl) (by kernel_rfl) (by kernel_rfl) (by kernel_rfl) (fun _ _ _ h => h) (Or.inl ⟨by rfl, ?_⟩) (by assumption) ?_
  rotate_left
  · intro w hSw
    try dsimp only at hSw
    go_simp
    try with_reducible rfl
  try simp only [Act.put, List.setIfInBounds_toArray, List.set_cons_zero, List.set_cons_succ]
  refine wpAnyH_take (i := 2) (v := ?_) (by simp only [List.getElem?_toArray, List.getElem?_cons_succ, List.getElem?_cons_zero]; rfl) (by kernel_rfl) (by kernel_rfl) (by kernel_rfl) (fun _ _ _ h => h) (Or.inl ⟨by rfl, ?_⟩) (by assumption) ?_
  rotate_left
  · intro w hSw
    try dsimp only at hSw
    go_simp
    try with_reducible rfl
  try simp only [Act.put, List.setIfInBounds_toArray, List.set_cons_zero, List.set_cons_succ]
  refine wpAnyH_take (i := 3) (v := ?_) (by simp only [List.getElem?_toArray, List.getElem?_cons_succ, List.getElem?_cons_zero]; rfl) (by kernel_rfl) (by kernel_rfl) (by kernel_rfl) (fun _ _ _ h => h) (Or.inl ⟨by rfl, ?_⟩) (by assumption) ?_
  rotate_left
  · intro w hSw
    try dsimp only at hSw
    go_simp
    try with_reducible rfl
  try simp only [Act.put, List.setIfInBounds_toArray, List.set_cons_zero, List.set_cons_succ]
  refine wpAnyH_take (i := 4) (v := ?_) (by simp only [List.getElem?_toArray, List.getElem?_cons_succ, List.getElem?_cons_zero]; rfl) (by kernel_rfl) (by kernel_rfl) (by kernel_rfl) (fun _ _ _ h => h) (Or.inl ⟨by rfl, ?_⟩) (by assumption) ?_
  rotate_left
  · intro w hSw
    try dsimp only at hSw
    go_simp
    try with_reducible rfl
  try simp only [Act.put, List.setIfInBounds_toArray, List.set_cons_zero, List.set_cons_succ]
  refine wpAnyH_take (i := 5) (v := ?_) (by simp only [List.getElem?_toArray, List.getElem?_cons_succ, List.getElem?_cons_zero]; rfl) (by kernel_rfl) (by kernel_rfl) (by kernel_rfl) (fun _ _ _ h => h) (Or.inl ⟨by rfl, ?_⟩) (by assumption) ?_
  rotate_left
  · intro w hSw
    try dsimp only at hSw
    go_simp
    try with_reducible rfl
  try simp only [Act.put, List.setIfInBounds_toArray, List.set_cons_zero, List.set_cons_succ]
  refine wpAnyH_take (i := 6) (v := ?_) (by simp only [List.getElem?_toArray, List.getElem?_cons_succ, List.getElem?_cons_zero]; rfl) (by kernel_rfl) (by kernel_rfl) (by kernel_rfl) (fun _ _ _ h => h) (Or.inl ⟨by rfl, ?_⟩) (by assumption) ?_
  rotate_left
  · intro w hSw
    try dsimp only at hSw
    go_simp
    try with_reducible rfl
  try simp only [Act.put, List.setIfInBounds_toArray, List.set_cons_zero, List.set_cons_succ]
  refine wpAnyH_take (i := 7) (v := ?_) (by simp only [List.getElem?_toArray, List.getElem?_cons_succ, List.getElem?_cons_zero]; rfl) (by kernel_rfl) (by kernel_rfl) (by kernel_rfl) (fun _ _ _ h => h) (Or.inl ⟨by rfl, ?_⟩) (by assumption) ?_
  rotate_left
  · intro w hSw
    try dsimp only at hSw
    go_simp
    try with_reducible rfl
  try simp only [Act.put, List.setIfInBounds_toArray, List.set_cons_zero, List.set_cons_succ]
  refine wpAnyH_take (i := 8) (v := ?_) (by simp only [List.getElem?_toArray, List.getElem?_cons_succ, List.getElem?_cons_zero]; rfl) (by kernel_rfl) (by kernel_rfl) (by kernel_rfl) (fun _ _ _ h => h) (Or.inl ⟨by rfl, ?_⟩) (by assumption) ?_
  rotate_left
  · intro w hSw
    try dsimp only at hSw
    go_simp
    try with_reducible rfl
  try simp only [Act.put, List.setIfInBounds_toArray, List.set_cons_zero, List.set_cons_succ]
  refine wpAnyH_ready (rs := [9]) (by kernel_rfl) (by simp) ?_
  refine AllReadyH.cons (by simp only [List.getElem?_toArray, List.getElem?_cons_succ, List.getElem?_cons_zero]; rfl) (fun K hK => ?_) AllReadyH.nil
  go_simp
  refine HAP.out.mono ?_
  rintro e w2 ⟨rfl, S2, d2, o2, s2⟩
  have HO2 : Hid (Only S0 w w2) := Lib.hid ((Only.of_below B1.out).trans (b := w1) (T := S0) ⟨o2.os, o2.tape, o2.output, o2.size, o2.block⟩ (fun _ h => h) (fun _ _ h => h))
  have HX2 : Hid (DLx w2 B d l (fun k => S k ∨ S2 k) S2 (s.append nm (frm k x)).2 nm rv E) := Lib.hid (HD.out.disk d2 HO2.out (fun k hk => (s2 k hk).imp id (fun e => Nat.le_trans B1.out.size e)))
  have HS2 : Hid (∀ k, S2 k → S0 k ∨ w.heap.size ≤ k) := Lib.hid (fun k hk => (s2 k hk).imp id (fun e => Nat.le_trans B1.out.size e))
  have q2 : w2.cell? ⟨l, 0, none⟩ = some (.pointer (some ⟨d, 0, none⟩)) ∧ w2.cell? ⟨l, 1, none⟩ = some (stv nm) := ⟨HX2.out.log.c0, HX2.out.log.c1⟩
  clear d2 o2 s2 HAP HD1
  go_wp2_with fail
  refine hK.out _ _ q2 (fun hHeld => ?_)
  clear hK K
  try simp only [Act.put, List.setIfInBounds_toArray, List.set_cons_zero, List.set_cons_succ]
  refine wpAnyH_take (i := 10) (v := ?_) (by simp only [List.getElem?_toArray, List.getElem?_cons_succ, List.getElem?_cons_zero]; rfl) (by kernel_rfl) (by kernel_rfl) (by kernel_rfl) (fun _ _ _ h => h) (Or.inl ⟨by rfl, ?_⟩) (by assumption) ?_
  rotate_left
  · intro w hSw
    try dsimp only at hSw
    go_simp
    try with_reducible rfl
  try simp only [Act.put, List.setIfInBounds_toArray, List.set_cons_zero, List.set_cons_succ]
  refine wpAnyH_done (by kernel_rfl) ?_ _
  refine NoPanic.normal ?_
  clear c0 c1
  obtain ⟨r, hr⟩ : ∃ r, r = s.append nm (frm k x) := ⟨_, rfl⟩
  rw [← hr] at HAD HX2 ⊢
  have HR := Lib.hid hr
  clear hr
  by_cases he : r.1 = 0
  case' neg =>
    rw [if_neg he] at HAD
    rw [enoOf_nz he]
    have HE := Lib.hid he
    clear he
    go_wp2_with fail
    go_ret
    refine ⟨by rw [HAD.out]; exact congrArg _ (enoOf_nz HE.out).symm, ?_⟩
    rw [HAD.out]
    exact ⟨_, ⟨S2, rv, E, HX2.out, rfl⟩, HO2.out.mono (fun k _ e => HD.out.s0 k e), fun k hk => hk.elim .inl (fun e => (HS2.out k e).imp (HD.out.s0 k) id)⟩
  case' pos =>
    rw [if_pos he] at HAD
    rw [he, show enoOf 0 = .nilIface from rfl]
    clear he
    go_wp2_with fail
    obtain ⟨i0, hi0, hz0, hz1, hz2⟩ := info_parts rinfo
    have c2 := HX2.out.log.c2
    obtain ⟨p, c, rfl⟩ := HX2.out.log.ra.slice
    have HXS : Hid (Seen w2.drew (.slice a x.length cap) x) := Lib.hid (HX.out.only (w' := w2) HO2.out (fun j hj e => HXO.out j hj (HD.out.s0 j e)))
    have HC := Lib.hid (clone_any w2.drew _ x hxl HXS.out)
    obtain ⟨en, hen⟩ : ∃ en, en = ends (rcs E) := ⟨_, rfl⟩
    have HEN := Lib.hid hen
    obtain ⟨n, hn⟩ : ∃ n, n = E.length := ⟨_, rfl⟩
    have HN := Lib.hid hn
    have hz2' : (en : Int) + (fl : Int) = ((en + (9 + x.length) : Nat) : Int) := by rw [HFL.out]; omega
    obtain ⟨z, hz⟩ : ∃ z : Nat, z = en + (9 + x.length) := ⟨_, rfl⟩
    rw [← hz] at hz2'
    have HZ := Lib.hid hz
    have hz63 : IntKind.i64.wrap ((en : Int) + (fl : Int)) = z := by rw [hz2']; exact IntWalk.i64_in _ (by omega)
    rw [← hn] at c2 HX2
    have HFT : Hid (n + 1 ≤ maxLen ∧ (n + 1) * 40 ≤ 140737488355328) := Lib.hid (dec_fits (by rw [hn]; exact HX2.out.log.ra.many))
    have HNB : Hid (n ≤ 111111111) := Lib.hid (by rw [hn]; exact HX2.out.log.ra.many)
    clear hz hen hn hz2'
    have c2d : w2.drew.cell? ⟨l, 2, none⟩ = some (.slice p n c) := c2
    have HLTL : Hid (l < w2.heap.size) := Lib.hid (lt_of_block HX2.out.log.cell)
    try simp only [List.append]
    refine wp_region_noPanic ?_
    refine wp_region_any_drew (by kernel_rfl) ?_
    refine wpAny_take (i := 0) (v := ?_) (by simp only [List.getElem?_toArray, List.getElem?_cons_zero]; rfl) (by kernel_rfl) (by kernel_rfl) (by kernel_rfl) (fun _ _ _ h => h) (Or.inl ⟨by rfl, ?_⟩) ?_
    rotate_left
    · intro w
      go_simp
      try with_reducible rfl
    try simp only [Act.put, List.setIfInBounds_toArray, List.set_cons_zero, List.set_cons_succ]
    refine wpAny_take (i := 1) (v := ?_) (by simp only [List.getElem?_toArray, List.getElem?_cons_succ, List.getElem?_cons_zero]; rfl) (by kernel_rfl) (by kernel_rfl) (by kernel_rfl) (fun _ _ _ h => h) (Or.inl ⟨by rfl, ?_⟩) ?_
    rotate_left
    · intro w
      go_simp
      try with_reducible rfl
    try simp only [Act.put, List.setIfInBounds_toArray, List.set_cons_zero, List.set_cons_succ]
    refine wpAny_take (i := 2) (v := ?_) (by simp only [List.getElem?_toArray, List.getElem?_cons_succ, List.getElem?_cons_zero]; rfl) (by kernel_rfl) (by kernel_rfl) (by kernel_rfl) (fun _ _ _ h => h) (Or.inl ⟨by rfl, ?_⟩) ?_
    rotate_left
    · intro w
      go_simp
      try with_reducible rfl
    try simp only [Act.put, List.setIfInBounds_toArray, List.set_cons_zero, List.set_cons_succ]
    refine wpAny_take (i := 3) (v := ?_) (by simp only [List.getElem?_toArray, List.getElem?_cons_succ, List.getElem?_cons_zero]; rfl) (by kernel_rfl) (by kernel_rfl) (by kernel_rfl) (fun _ _ _ h => h) (Or.inl ⟨by rfl, ?_⟩) ?_
    rotate_left
    · intro w
      go_simp
      try with_reducible rfl
    try simp only [Act.put, List.setIfInBounds_toArray, List.set_cons_zero, List.set_cons_succ]
    refine wpAny_take (i := 5) (v := ?_) (by simp only [List.getElem?_toArray, List.getElem?_cons_succ, List.getElem?_cons_zero]; rfl) (by kernel_rfl) (by kernel_rfl) (by kernel_rfl) (fun _ _ _ h => h) (Or.inl ⟨by rfl, ?_⟩) ?_
    rotate_left
    · intro w
      go_simp
      try with_reducible rfl
    try simp only [Act.put, List.setIfInBounds_toArray, List.set_cons_zero, List.set_cons_succ]
    refine wpAny_take (i := 6) (v := ?_) (by simp only [List.getElem?_toArray, List.getElem?_cons_succ, List.getElem?_cons_zero]; rfl) (by kernel_rfl) (by kernel_rfl) (by kernel_rfl) (fun _ _ _ h => h) (Or.inl ⟨by rfl, ?_⟩) ?_
    rotate_left
    · intro w
      go_simp
      try with_reducible rfl
    try simp only [Act.put, List.setIfInBounds_toArray, List.set_cons_zero, List.set_cons_succ]
    refine wpAny_take (i := 8) (v := ?_) (by simp only [List.getElem?_toArray, List.getElem?_cons_succ, List.getElem?_cons_zero]; rfl) (by kernel_rfl) (by kernel_rfl) (by kernel_rfl) (fun _ _ _ h => h) (Or.inl ⟨by rfl, ?_⟩) ?_
    rotate_left
    · intro w
      go_simp
      try with_reducible rfl
    try simp only [Act.put, List.setIfInBounds_toArray, List.set_cons_zero, List.set_cons_succ]
    refine wpAny_take (i := 10) (v := ?_) (by simp only [List.getElem?_toArray, List.getElem?_cons_succ, List.getElem?_cons_zero]; rfl) (by kernel_rfl) (by kernel_rfl) (by kernel_rfl) (fun _ _ _ h => h) (Or.inl ⟨by rfl, ?_⟩) ?_
    rotate_left
    · intro w
      go_simp
      try with_reducible rfl
    try simp only [Act.put, List.setIfInBounds_toArray, List.set_cons_zero, List.set_cons_succ]
    refine wpAny_take (i := 11) (v := ?_) (by simp only [List.getElem?_toArray, List.getElem?_cons_succ, List.getElem?_cons_zero]; rfl) (by kernel_rfl) (by kernel_rfl) (by kernel_rfl) (fun _ _ _ h => h) (Or.inl ⟨by rfl, ?_⟩) ?_
    rotate_left
    · intro w
      go_simp
      try with_reducible rfl
    try simp only [Act.put, List.setIfInBounds_toArray, List.set_cons_zero, List.set_cons_succ]
    refine wpAny_ready (rs := [4, 7]) (by kernel_rfl) (by simp) ?_
    refine (AllReady.cons (by simp only [List.getElem?_toArray, List.getElem?_cons_succ, List.getElem?_cons_zero]; rfl) (fun K hK => ?_) (AllReady.cons (by simp only [List.getElem?_toArray, List.getElem?_cons_succ, List.getElem?_cons_zero]; rfl) (fun K hK => ?_) AllReady.nil))
    · have HK := Lib.hid hK
      clear hK
      go_simp
      refine HK.out _ _ ?_
      clear HK K
      try simp only [Act.put, List.setIfInBounds_toArray, List.set_cons_zero, List.set_cons_succ]
      refine wpAny_ready (rs := [7]) (by kernel_rfl) (by simp) ?_
      refine (AllReady.cons (by simp only [List.getElem?_toArray, List.getElem?_cons_succ, List.getElem?_cons_zero]; rfl) (fun K hK => ?_) AllReady.nil)
      have HK := Lib.hid hK
      clear hK
      go_simp
      refine HC.out.mono ?_
      rintro e w3 ⟨v3, rfl, o3, b3⟩
      have HX3 : Hid (DLx w3 B d l (fun k => S k ∨ S2 k) S2 r.2 nm (.slice p n c) E) := Lib.hid (HX2.out.kept (T := fun _ => False) (Only.of_below (w := w2) ⟨b3.os, b3.tape, b3.output, b3.size, b3.block⟩) (fun _ _ h => h))
      have HB3 : Hid (Below w2.heap.size w2 w3) := Lib.hid ⟨b3.os, b3.tape, b3.output, b3.size, b3.block⟩
      have HV3 : Hid (BOwn w3 w2.heap.size v3 x) := Lib.hid o3
      have c3 := HX3.out.log.c2
      clear o3 b3
      obtain ⟨p3, cc3, rfl⟩ := own_slice HV3.out
      have HLN := Lib.hid (len_to w3 B l d nm _ E HX3.out.log)
      rw [← HEN.out] at HLN
      go_wp2_with fail
      refine HK.out _ _ ?_
      clear HK K
      try simp only [Act.put, List.setIfInBounds_toArray, List.set_cons_zero, List.set_cons_succ]
      refine wpAny_ready (rs := [9]) (by kernel_rfl) (by simp) ?_
      refine (AllReady.cons (by simp only [List.getElem?_toArray, List.getElem?_cons_succ, List.getElem?_cons_zero]; rfl) (fun K hK => ?_) AllReady.nil)
      have HK := Lib.hid hK
      clear hK
      go_simp
      refine HLN.out.mono ?_
      rintro e w4 ⟨rfl, rfl⟩
      go_wp2_with fail
      refine HK.out _ _ ?_
      clear HK K
      try simp only [Act.put, List.setIfInBounds_toArray, List.set_cons_zero, List.set_cons_succ]
      refine wpAny_take (i := 12) (v := ?_) (by simp only [List.getElem?_toArray, List.getElem?_cons_succ, List.getElem?_cons_zero]; rfl) (by kernel_rfl) (by kernel_rfl) (by kernel_rfl) (fun _ _ _ h => h) (Or.inl ⟨by rfl, ?_⟩) ?_
      rotate_left
      · intro w
        go_simp
        try with_reducible rfl
      try simp only [Act.put, List.setIfInBounds_toArray, List.set_cons_zero, List.set_cons_succ]
      refine wpAny_take (i := 13) (v := ?_) (by simp only [List.getElem?_toArray, List.getElem?_cons_succ, List.getElem?_cons_zero]; rfl) (by kernel_rfl) (by kernel_rfl) (by kernel_rfl) (fun _ _ _ h => h) (Or.inl ⟨by rfl, ?_⟩) ?_
      rotate_left
      · intro w
        go_simp
        try with_reducible rfl
      try simp only [Act.put, List.setIfInBounds_toArray, List.set_cons_zero, List.set_cons_succ]
      refine wpAny_ready (rs := [14]) (by kernel_rfl) (by simp) ?_
      refine (AllReady.cons (by simp only [List.getElem?_toArray, List.getElem?_cons_succ, List.getElem?_cons_zero]; rfl) (fun K hK => ?_) AllReady.nil)
      have HK := Lib.hid hK
      clear hK
      go_simp
      have HX4 : Hid (DLx (w3.alloc (.cells #[.int .i64 k, .slice p3 x.length cc3, .int .i64 z] 112)) B d l (fun k => S k ∨ S2 k) S2 r.2 nm (.slice p n c) E) := Lib.hid (HX3.out.kept (T := fun _ => False) (Only.of_below ((Below.refl _ w3).alloc (Nat.le_refl _) _)) (fun _ _ h => h))
      have c4 := HX4.out.log.c2
      have HN4 : Hid (∀ j u, ([.int .i64 k, .slice p3 x.length cc3, .int .i64 z] : List Value)[j]? = some u → (w3.alloc (.cells #[.int .i64 k, .slice p3 x.length cc3, .int .i64 z] 112)).cell? ((⟨w3.heap.size, 0, none⟩ : Addr).add j) = some u) := Lib.hid (World.news_of_block (cs := #[.int .i64 k, .slice p3 x.length cc3, .int .i64 z]) (t := 112) (fr := (0, 0)) (heap_alloc_new w3 _))
      have HV4 : Hid (BOwn (w3.alloc (.cells #[.int .i64 k, .slice p3 x.length cc3, .int .i64 z] 112)) w2.heap.size (.slice p3 x.length cc3) x) := Lib.hid (HV3.out.alloc _)
      have HB4 : Hid (Below w2.heap.size w2 (w3.alloc (.cells #[.int .i64 k, .slice p3 x.length cc3, .int .i64 z] 112))) := Lib.hid (HB3.out.alloc HB3.out.size _)
      have HSZ4 : Hid ((w3.alloc (.cells #[.int .i64 k, .slice p3 x.length cc3, .int .i64 z] 112)).heap.size = w3.heap.size + 1) := Lib.hid (by simp)
      refine HK.out _ _ ?_
      clear HK K
      try simp only [Act.put, List.setIfInBounds_toArray, List.set_cons_zero, List.set_cons_succ]
      refine wpAny_ready (rs := [15]) (by kernel_rfl) (by simp) ?_
      refine (AllReady.cons (by simp only [List.getElem?_toArray, List.getElem?_cons_succ, List.getElem?_cons_zero]; rfl) (fun K hK => ?_) AllReady.nil)
      have HK := Lib.hid hK
      clear hK
      refine step_append_lies _ (by rfl) _ _ _ (by rfl) B 112 i0 _ 3 40 Tryz.underlying74 hi0 hz0 hz1 hz2 rfl (by omega) (.slice p n c) n (lrows 0 E) (by rfl) (by rw [HN.out]; have := HX4.out.log.ra.row; rw [HN.out] at this; exact this) ⟨w3.heap.size, 0, none⟩ 1 1 [.int .i64 k, .slice p3 x.length cc3, .int .i64 z] (by rfl) (by rfl) (fun j u hj => HN4.out j u hj) (by simp [Value.oneCell']) (by decide) HFT.out.1 HFT.out.2 (Nat.le_trans HX4.out.log.bl (Nat.le_of_lt (lt_of_block HX4.out.log.cell))) _ HSZ4.out ?_
      intro gg cc w5 own5 grow5 hat5 hlt5
      have HO5 : Hid (Only (fun k => (Value.slice p n c).ownBlock = some k) (w3.alloc (.cells #[.int .i64 k, .slice p3 x.length cc3, .int .i64 z] 112)) w5) := Lib.hid ((Only.refl _ _).grown grow5 (fun k _ e => e))
      have HOW5 : Hid (w5.ownsRow B 112 3 (.slice (some ⟨gg, 0, none⟩) (n + 1) cc) (n + 1) (lrows 0 E ++ rrow (ends (rcs E)) (.slice p3 x.length cc3, k, x))) := Lib.hid (by rw [rrow, ← HEN.out, ← HZ.out]; exact own5)
      have HAT5 := Lib.hid hat5
      have HGL5 := Lib.hid hlt5
      have hl5 := (HO5.out.block l (lt_of_block HX4.out.log.cell) HX4.out.log.ne_row).trans HX4.out.log.cell
      have c5 : w5.cell? ⟨l, 2, none⟩ = some (.slice p n c) := by rw [cell_of_row w5 l 2 _ _ _ hl5]; rfl
      have f5 : w5.frozen? ⟨l, 2, none⟩ = false := by simp [World.frozen?, hl5]
      clear own5 grow5 hat5 hlt5 hl5
      refine HK.out _ _ ?_
      clear HK K
      try simp only [Act.put, List.setIfInBounds_toArray, List.set_cons_zero, List.set_cons_succ]
      refine wpAny_take (i := 16) (v := ?_) (by simp only [List.getElem?_toArray, List.getElem?_cons_succ, List.getElem?_cons_zero]; rfl) (by kernel_rfl) (by kernel_rfl) (by kernel_rfl) (fun _ _ _ h => h) (Or.inl ⟨by rfl, ?_⟩) ?_
      rotate_left
      · intro w
        go_simp
        try with_reducible rfl
      try simp only [Act.put, List.setIfInBounds_toArray, List.set_cons_zero, List.set_cons_succ]
      refine wpAny_take (i := 17) (v := ?_) (by simp only [List.getElem?_toArray, List.getElem?_cons_succ, List.getElem?_cons_zero]; rfl) (by kernel_rfl) (by kernel_rfl) (by kernel_rfl) (fun _ _ _ h => h) (Or.inl ⟨by rfl, ?_⟩) ?_
      rotate_left
      · intro w
        go_simp
        try with_reducible rfl
      try simp only [Act.put, List.setIfInBounds_toArray, List.set_cons_zero, List.set_cons_succ]
      refine wpAny_ready (rs := [18]) (by kernel_rfl) (by simp) ?_
      refine (AllReady.cons (by simp only [List.getElem?_toArray, List.getElem?_cons_succ, List.getElem?_cons_zero]; rfl) (fun K hK => ?_) AllReady.nil)
      have HK := Lib.hid hK
      clear hK
      go_simp
      refine HK.out _ _ ?_
      clear HK K
      try simp only [Act.put, List.setIfInBounds_toArray, List.set_cons_zero, List.set_cons_succ]
      refine wpAny_done (by kernel_rfl) ?_ _
      refine NoPanic.normal ?_
      clear c2 c2d c3 c4 c5 f5
      go_wp2_with fail
      go_ret
      refine ⟨by rw [HAD.out]; exact eno_0, ?_⟩
      rw [HAD.out]
      have HX4' := HX4.out
      have HOW5' := HOW5.out
      rw [HN.out] at HX4' HOW5' ⊢
      exact add_end HD.out HO2.out HX4' HS2.out (fun j hj => HX2.out.lt j (.inr hj)) HB4.out HV4.out HRK.out hR HOW5' (by have := HO5.out; rw [HN.out] at this; exact this) (by have := HAT5.out; rw [HN.out] at this; exact this) (Nat.le_trans HB3.out.size (Nat.le_succ _)) HGL5.out
    · have HK := Lib.hid hK
      clear hK
      go_simp
      refine HC.out.mono ?_
      rintro e w3 ⟨v3, rfl, o3, b3⟩
      have HX3 : Hid (DLx w3 B d l (fun k => S k ∨ S2 k) S2 r.2 nm (.slice p n c) E) := Lib.hid (HX2.out.kept (T := fun _ => False) (Only.of_below (w := w2) ⟨b3.os, b3.tape, b3.output, b3.size, b3.block⟩) (fun _ _ h => h))
      have HB3 : Hid (Below w2.heap.size w2 w3) := Lib.hid ⟨b3.os, b3.tape, b3.output, b3.size, b3.block⟩
      have HV3 : Hid (BOwn w3 w2.heap.size v3 x) := Lib.hid o3
      have c3 := HX3.out.log.c2
      clear o3 b3
      obtain ⟨p3, cc3, rfl⟩ := own_slice HV3.out
      have HLN := Lib.hid (len_to w3 B l d nm _ E HX3.out.log)
      rw [← HEN.out] at HLN
      go_wp2_with fail
      refine HK.out _ _ ?_
      clear HK K
      try simp only [Act.put, List.setIfInBounds_toArray, List.set_cons_zero, List.set_cons_succ]
      refine wpAny_ready (rs := [4, 9]) (by kernel_rfl) (by simp) ?_
      refine (AllReady.cons (by simp only [List.getElem?_toArray, List.getElem?_cons_succ, List.getElem?_cons_zero]; rfl) (fun K hK => ?_) (AllReady.cons (by simp only [List.getElem?_toArray, List.getElem?_cons_succ, List.getElem?_cons_zero]; rfl) (fun K hK => ?_) AllReady.nil))
      · have HK := Lib.hid hK
        clear hK
        go_simp
        refine HK.out _ _ ?_
        clear HK K
        try simp only [Act.put, List.setIfInBounds_toArray, List.set_cons_zero, List.set_cons_succ]
        refine wpAny_ready (rs := [9]) (by kernel_rfl) (by simp) ?_
        refine (AllReady.cons (by simp only [List.getElem?_toArray, List.getElem?_cons_succ, List.getElem?_cons_zero]; rfl) (fun K hK => ?_) AllReady.nil)
        have HK := Lib.hid hK
        clear hK
        go_simp
        refine HLN.out.mono ?_
        rintro e w4 ⟨rfl, rfl⟩
        go_wp2_with fail
        refine HK.out _ _ ?_
        clear HK K
        try simp only [Act.put, List.setIfInBounds_toArray, List.set_cons_zero, List.set_cons_succ]
        refine wpAny_take (i := 12) (v := ?_) (by simp only [List.getElem?_toArray, List.getElem?_cons_succ, List.getElem?_cons_zero]; rfl) (by kernel_rfl) (by kernel_rfl) (by kernel_rfl) (fun _ _ _ h => h) (Or.inl ⟨by rfl, ?_⟩) ?_
        rotate_left
        · intro w
          go_simp
          try with_reducible rfl
        try simp only [Act.put, List.setIfInBounds_toArray, List.set_cons_zero, List.set_cons_succ]
        refine wpAny_take (i := 13) (v := ?_) (by simp only [List.getElem?_toArray, List.getElem?_cons_succ, List.getElem?_cons_zero]; rfl) (by kernel_rfl) (by kernel_rfl) (by kernel_rfl) (fun _ _ _ h => h) (Or.inl ⟨by rfl, ?_⟩) ?_
        rotate_left
        · intro w
          go_simp
          try with_reducible rfl
        try simp only [Act.put, List.setIfInBounds_toArray, List.set_cons_zero, List.set_cons_succ]
        refine wpAny_ready (rs := [14]) (by kernel_rfl) (by simp) ?_
        refine (AllReady.cons (by simp only [List.getElem?_toArray, List.getElem?_cons_succ, List.getElem?_cons_zero]; rfl) (fun K hK => ?_) AllReady.nil)
        have HK := Lib.hid hK
        clear hK
        go_simp
        have HX4 : Hid (DLx (w3.alloc (.cells #[.int .i64 k, .slice p3 x.length cc3, .int .i64 z] 112)) B d l (fun k => S k ∨ S2 k) S2 r.2 nm (.slice p n c) E) := Lib.hid (HX3.out.kept (T := fun _ => False) (Only.of_below ((Below.refl _ w3).alloc (Nat.le_refl _) _)) (fun _ _ h => h))
        have c4 := HX4.out.log.c2
        have HN4 : Hid (∀ j u, ([.int .i64 k, .slice p3 x.length cc3, .int .i64 z] : List Value)[j]? = some u → (w3.alloc (.cells #[.int .i64 k, .slice p3 x.length cc3, .int .i64 z] 112)).cell? ((⟨w3.heap.size, 0, none⟩ : Addr).add j) = some u) := Lib.hid (World.news_of_block (cs := #[.int .i64 k, .slice p3 x.length cc3, .int .i64 z]) (t := 112) (fr := (0, 0)) (heap_alloc_new w3 _))
        have HV4 : Hid (BOwn (w3.alloc (.cells #[.int .i64 k, .slice p3 x.length cc3, .int .i64 z] 112)) w2.heap.size (.slice p3 x.length cc3) x) := Lib.hid (HV3.out.alloc _)
        have HB4 : Hid (Below w2.heap.size w2 (w3.alloc (.cells #[.int .i64 k, .slice p3 x.length cc3, .int .i64 z] 112))) := Lib.hid (HB3.out.alloc HB3.out.size _)
        have HSZ4 : Hid ((w3.alloc (.cells #[.int .i64 k, .slice p3 x.length cc3, .int .i64 z] 112)).heap.size = w3.heap.size + 1) := Lib.hid (by simp)
        refine HK.out _ _ ?_
        clear HK K
        try simp only [Act.put, List.setIfInBounds_toArray, List.set_cons_zero, List.set_cons_succ]
        refine wpAny_ready (rs := [15]) (by kernel_rfl) (by simp) ?_
        refine (AllReady.cons (by simp only [List.getElem?_toArray, List.getElem?_cons_succ, List.getElem?_cons_zero]; rfl) (fun K hK => ?_) AllReady.nil)
        have HK := Lib.hid hK
        clear hK
        refine step_append_lies _ (by rfl) _ _ _ (by rfl) B 112 i0 _ 3 40 Tryz.underlying74 hi0 hz0 hz1 hz2 rfl (by omega) (.slice p n c) n (lrows 0 E) (by rfl) (by rw [HN.out]; have := HX4.out.log.ra.row; rw [HN.out] at this; exact this) ⟨w3.heap.size, 0, none⟩ 1 1 [.int .i64 k, .slice p3 x.length cc3, .int .i64 z] (by rfl) (by rfl) (fun j u hj => HN4.out j u hj) (by simp [Value.oneCell']) (by decide) HFT.out.1 HFT.out.2 (Nat.le_trans HX4.out.log.bl (Nat.le_of_lt (lt_of_block HX4.out.log.cell))) _ HSZ4.out ?_
        intro gg cc w5 own5 grow5 hat5 hlt5
        have HO5 : Hid (Only (fun k => (Value.slice p n c).ownBlock = some k) (w3.alloc (.cells #[.int .i64 k, .slice p3 x.length cc3, .int .i64 z] 112)) w5) := Lib.hid ((Only.refl _ _).grown grow5 (fun k _ e => e))
        have HOW5 : Hid (w5.ownsRow B 112 3 (.slice (some ⟨gg, 0, none⟩) (n + 1) cc) (n + 1) (lrows 0 E ++ rrow (ends (rcs E)) (.slice p3 x.length cc3, k, x))) := Lib.hid (by rw [rrow, ← HEN.out, ← HZ.out]; exact own5)
        have HAT5 := Lib.hid hat5
        have HGL5 := Lib.hid hlt5
        have hl5 := (HO5.out.block l (lt_of_block HX4.out.log.cell) HX4.out.log.ne_row).trans HX4.out.log.cell
        have c5 : w5.cell? ⟨l, 2, none⟩ = some (.slice p n c) := by rw [cell_of_row w5 l 2 _ _ _ hl5]; rfl
        have f5 : w5.frozen? ⟨l, 2, none⟩ = false := by simp [World.frozen?, hl5]
        clear own5 grow5 hat5 hlt5 hl5
        refine HK.out _ _ ?_
        clear HK K
        try simp only [Act.put, List.setIfInBounds_toArray, List.set_cons_zero, List.set_cons_succ]
        refine wpAny_take (i := 16) (v := ?_) (by simp only [List.getElem?_toArray, List.getElem?_cons_succ, List.getElem?_cons_zero]; rfl) (by kernel_rfl) (by kernel_rfl) (by kernel_rfl) (fun _ _ _ h => h) (Or.inl ⟨by rfl, ?_⟩) ?_
        rotate_left
        · intro w
          go_simp
          try with_reducible rfl
        try simp only [Act.put, List.setIfInBounds_toArray, List.set_cons_zero, List.set_cons_succ]
        refine wpAny_take (i := 17) (v := ?_) (by simp only [List.getElem?_toArray, List.getElem?_cons_succ, List.getElem?_cons_zero]; rfl) (by kernel_rfl) (by kernel_rfl) (by kernel_rfl) (fun _ _ _ h => h) (Or.inl ⟨by rfl, ?_⟩) ?_
        rotate_left
        · intro w
          go_simp
          try with_reducible rfl
        try simp only [Act.put, List.setIfInBounds_toArray, List.set_cons_zero, List.set_cons_succ]
        refine wpAny_ready (rs := [18]) (by kernel_rfl) (by simp) ?_
        refine (AllReady.cons (by simp only [List.getElem?_toArray, List.getElem?_cons_succ, List.getElem?_cons_zero]; rfl) (fun K hK => ?_) AllReady.nil)
        have HK := Lib.hid hK
        clear hK
        go_simp
        refine HK.out _ _ ?_
        clear HK K
        try simp only [Act.put, List.setIfInBounds_toArray, List.set_cons_zero, List.set_cons_succ]
        refine wpAny_done (by kernel_rfl) ?_ _
        refine NoPanic.normal ?_
        clear c2 c2d c3 c4 c5 f5
        go_wp2_with fail
        go_ret
        refine ⟨by rw [HAD.out]; exact eno_0, ?_⟩
        rw [HAD.out]
        have HX4' := HX4.out
        have HOW5' := HOW5.out
        rw [HN.out] at HX4' HOW5' ⊢
        exact add_end HD.out HO2.out HX4' HS2.out (fun j hj => HX2.out.lt j (.inr hj)) HB4.out HV4.out HRK.out hR HOW5' (by have := HO5.out; rw [HN.out] at this; exact this) (by have := HAT5.out; rw [HN.out] at this; exact this) (Nat.le_trans HB3.out.size (Nat.le_succ _)) HGL5.out
      · have HK := Lib.hid hK
        clear hK
        go_simp
        refine HLN.out.mono ?_
        rintro e w4 ⟨rfl, rfl⟩
        go_wp2_with fail
        refine HK.out _ _ ?_
        clear HK K
        try simp only [Act.put, List.setIfInBounds_toArray, List.set_cons_zero, List.set_cons_succ]
        refine wpAny_take (i := 12) (v := ?_) (by simp only [List.getElem?_toArray, List.getElem?_cons_succ, List.getElem?_cons_zero]; rfl) (by kernel_rfl) (by kernel_rfl) (by kernel_rfl) (fun _ _ _ h => h) (Or.inl ⟨by rfl, ?_⟩) ?_
        rotate_left
        · intro w
          go_simp
          try with_reducible rfl
        try simp only [Act.put, List.setIfInBounds_toArray, List.set_cons_zero, List.set_cons_succ]
        refine wpAny_take (i := 13) (v := ?_) (by simp only [List.getElem?_toArray, List.getElem?_cons_succ, List.getElem?_cons_zero]; rfl) (by kernel_rfl) (by kernel_rfl) (by kernel_rfl) (fun _ _ _ h => h) (Or.inl ⟨by rfl, ?_⟩) ?_
        rotate_left
        · intro w
          go_simp
          try with_reducible rfl
        try simp only [Act.put, List.setIfInBounds_toArray, List.set_cons_zero, List.set_cons_succ]
        refine wpAny_ready (rs := [4, 14]) (by kernel_rfl) (by simp) ?_
        refine (AllReady.cons (by simp only [List.getElem?_toArray, List.getElem?_cons_succ, List.getElem?_cons_zero]; rfl) (fun K hK => ?_) (AllReady.cons (by simp only [List.getElem?_toArray, List.getElem?_cons_succ, List.getElem?_cons_zero]; rfl) (fun K hK => ?_) AllReady.nil))
        · have HK := Lib.hid hK
          clear hK
          go_simp
          refine HK.out _ _ ?_
          clear HK K
          try simp only [Act.put, List.setIfInBounds_toArray, List.set_cons_zero, List.set_cons_succ]
          refine wpAny_ready (rs := [14]) (by kernel_rfl) (by simp) ?_
          refine (AllReady.cons (by simp only [List.getElem?_toArray, List.getElem?_cons_succ, List.getElem?_cons_zero]; rfl) (fun K hK => ?_) AllReady.nil)
          have HK := Lib.hid hK
          clear hK
          go_simp
          have HX4 : Hid (DLx (w3.alloc (.cells #[.int .i64 k, .slice p3 x.length cc3, .int .i64 z] 112)) B d l (fun k => S k ∨ S2 k) S2 r.2 nm (.slice p n c) E) := Lib.hid (HX3.out.kept (T := fun _ => False) (Only.of_below ((Below.refl _ w3).alloc (Nat.le_refl _) _)) (fun _ _ h => h))
          have c4 := HX4.out.log.c2
          have HN4 : Hid (∀ j u, ([.int .i64 k, .slice p3 x.length cc3, .int .i64 z] : List Value)[j]? = some u → (w3.alloc (.cells #[.int .i64 k, .slice p3 x.length cc3, .int .i64 z] 112)).cell? ((⟨w3.heap.size, 0, none⟩ : Addr).add j) = some u) := Lib.hid (World.news_of_block (cs := #[.int .i64 k, .slice p3 x.length cc3, .int .i64 z]) (t := 112) (fr := (0, 0)) (heap_alloc_new w3 _))
          have HV4 : Hid (BOwn (w3.alloc (.cells #[.int .i64 k, .slice p3 x.length cc3, .int .i64 z] 112)) w2.heap.size (.slice p3 x.length cc3) x) := Lib.hid (HV3.out.alloc _)
          have HB4 : Hid (Below w2.heap.size w2 (w3.alloc (.cells #[.int .i64 k, .slice p3 x.length cc3, .int .i64 z] 112))) := Lib.hid (HB3.out.alloc HB3.out.size _)
          have HSZ4 : Hid ((w3.alloc (.cells #[.int .i64 k, .slice p3 x.length cc3, .int .i64 z] 112)).heap.size = w3.heap.size + 1) := Lib.hid (by simp)
          refine HK.out _ _ ?_
          clear HK K
          try simp only [Act.put, List.setIfInBounds_toArray, List.set_cons_zero, List.set_cons_succ]
          refine wpAny_ready (rs := [15]) (by kernel_rfl) (by simp) ?_
          refine (AllReady.cons (by simp only [List.getElem?_toArray, List.getElem?_cons_succ, List.getElem?_cons_zero]; rfl) (fun K hK => ?_) AllReady.nil)
          have HK := Lib.hid hK
          clear hK
          refine step_append_lies _ (by rfl) _ _ _ (by rfl) B 112 i0 _ 3 40 Tryz.underlying74 hi0 hz0 hz1 hz2 rfl (by omega) (.slice p n c) n (lrows 0 E) (by rfl) (by rw [HN.out]; have := HX4.out.log.ra.row; rw [HN.out] at this; exact this) ⟨w3.heap.size, 0, none⟩ 1 1 [.int .i64 k, .slice p3 x.length cc3, .int .i64 z] (by rfl) (by rfl) (fun j u hj => HN4.out j u hj) (by simp [Value.oneCell']) (by decide) HFT.out.1 HFT.out.2 (Nat.le_trans HX4.out.log.bl (Nat.le_of_lt (lt_of_block HX4.out.log.cell))) _ HSZ4.out ?_
          intro gg cc w5 own5 grow5 hat5 hlt5
          have HO5 : Hid (Only (fun k => (Value.slice p n c).ownBlock = some k) (w3.alloc (.cells #[.int .i64 k, .slice p3 x.length cc3, .int .i64 z] 112)) w5) := Lib.hid ((Only.refl _ _).grown grow5 (fun k _ e => e))
          have HOW5 : Hid (w5.ownsRow B 112 3 (.slice (some ⟨gg, 0, none⟩) (n + 1) cc) (n + 1) (lrows 0 E ++ rrow (ends (rcs E)) (.slice p3 x.length cc3, k, x))) := Lib.hid (by rw [rrow, ← HEN.out, ← HZ.out]; exact own5)
          have HAT5 := Lib.hid hat5
          have HGL5 := Lib.hid hlt5
          have hl5 := (HO5.out.block l (lt_of_block HX4.out.log.cell) HX4.out.log.ne_row).trans HX4.out.log.cell
          have c5 : w5.cell? ⟨l, 2, none⟩ = some (.slice p n c) := by rw [cell_of_row w5 l 2 _ _ _ hl5]; rfl
          have f5 : w5.frozen? ⟨l, 2, none⟩ = false := by simp [World.frozen?, hl5]
          clear own5 grow5 hat5 hlt5 hl5
          refine HK.out _ _ ?_
          clear HK K
          try simp only [Act.put, List.setIfInBounds_toArray, List.set_cons_zero, List.set_cons_succ]
          refine wpAny_take (i := 16) (v := ?_) (by simp only [List.getElem?_toArray, List.getElem?_cons_succ, List.getElem?_cons_zero]; rfl) (by kernel_rfl) (by kernel_rfl) (by kernel_rfl) (fun _ _ _ h => h) (Or.inl ⟨by rfl, ?_⟩) ?_
          rotate_left
          · intro w
            go_simp
            try with_reducible rfl
          try simp only [Act.put, List.setIfInBounds_toArray, List.set_cons_zero, List.set_cons_succ]
          refine wpAny_take (i := 17) (v := ?_) (by simp only [List.getElem?_toArray, List.getElem?_cons_succ, List.getElem?_cons_zero]; rfl) (by kernel_rfl) (by kernel_rfl) (by kernel_rfl) (fun _ _ _ h => h) (Or.inl ⟨by rfl, ?_⟩) ?_
          rotate_left
          · intro w
            go_simp
            try with_reducible rfl
          try simp only [Act.put, List.setIfInBounds_toArray, List.set_cons_zero, List.set_cons_succ]
          refine wpAny_ready (rs := [18]) (by kernel_rfl) (by simp) ?_
          refine (AllReady.cons (by simp only [List.getElem?_toArray, List.getElem?_cons_succ, List.getElem?_cons_zero]; rfl) (fun K hK => ?_) AllReady.nil)
          have HK := Lib.hid hK
          clear hK
          go_simp
          refine HK.out _ _ ?_
          clear HK K
          try simp only [Act.put, List.setIfInBounds_toArray, List.set_cons_zero, List.set_cons_succ]
          refine wpAny_done (by kernel_rfl) ?_ _
          refine NoPanic.normal ?_
          clear c2 c2d c3 c4 c5 f5
          go_wp2_with fail
          go_ret
          refine ⟨by rw [HAD.out]; exact eno_0, ?_⟩
          rw [HAD.out]
          have HX4' := HX4.out
          have HOW5' := HOW5.out
          rw [HN.out] at HX4' HOW5' ⊢
          exact add_end HD.out HO2.out HX4' HS2.out (fun j hj => HX2.out.lt j (.inr hj)) HB4.out HV4.out HRK.out hR HOW5' (by have := HO5.out; rw [HN.out] at this; exact this) (by have := HAT5.out; rw [HN.out] at this; exact this) (Nat.le_trans HB3.out.size (Nat.le_succ _)) HGL5.out
        · have HK := Lib.hid hK
          clear hK
          go_simp
          have HX4 : Hid (DLx (w3.alloc (.cells #[.int .i64 k, .slice p3 x.length cc3, .int .i64 z] 112)) B d l (fun k => S k ∨ S2 k) S2 r.2 nm (.slice p n c) E) := Lib.hid (HX3.out.kept (T := fun _ => False) (Only.of_below ((Below.refl _ w3).alloc (Nat.le_refl _) _)) (fun _ _ h => h))
          have c4 := HX4.out.log.c2
          have HN4 : Hid (∀ j u, ([.int .i64 k, .slice p3 x.length cc3, .int .i64 z] : List Value)[j]? = some u → (w3.alloc (.cells #[.int .i64 k, .slice p3 x.length cc3, .int .i64 z] 112)).cell? ((⟨w3.heap.size, 0, none⟩ : Addr).add j) = some u) := Lib.hid (World.news_of_block (cs := #[.int .i64 k, .slice p3 x.length cc3, .int .i64 z]) (t := 112) (fr := (0, 0)) (heap_alloc_new w3 _))
          have HV4 : Hid (BOwn (w3.alloc (.cells #[.int .i64 k, .slice p3 x.length cc3, .int .i64 z] 112)) w2.heap.size (.slice p3 x.length cc3) x) := Lib.hid (HV3.out.alloc _)
          have HB4 : Hid (Below w2.heap.size w2 (w3.alloc (.cells #[.int .i64 k, .slice p3 x.length cc3, .int .i64 z] 112))) := Lib.hid (HB3.out.alloc HB3.out.size _)
          have HSZ4 : Hid ((w3.alloc (.cells #[.int .i64 k, .slice p3 x.length cc3, .int .i64 z] 112)).heap.size = w3.heap.size + 1) := Lib.hid (by simp)
          refine HK.out _ _ ?_
          clear HK K
          try simp only [Act.put, List.setIfInBounds_toArray, List.set_cons_zero, List.set_cons_succ]
          refine wpAny_ready (rs := [4]) (by kernel_rfl) (by simp) ?_
          refine (AllReady.cons (by simp only [List.getElem?_toArray, List.getElem?_cons_succ, List.getElem?_cons_zero]; rfl) (fun K hK => ?_) AllReady.nil)
          have HK := Lib.hid hK
          clear hK
          go_simp
          refine HK.out _ _ ?_
          clear HK K
          try simp only [Act.put, List.setIfInBounds_toArray, List.set_cons_zero, List.set_cons_succ]
          refine wpAny_ready (rs := [15]) (by kernel_rfl) (by simp) ?_
          refine (AllReady.cons (by simp only [List.getElem?_toArray, List.getElem?_cons_succ, List.getElem?_cons_zero]; rfl) (fun K hK => ?_) AllReady.nil)
          have HK := Lib.hid hK
          clear hK
          refine step_append_lies _ (by rfl) _ _ _ (by rfl) B 112 i0 _ 3 40 Tryz.underlying74 hi0 hz0 hz1 hz2 rfl (by omega) (.slice p n c) n (lrows 0 E) (by rfl) (by rw [HN.out]; have := HX4.out.log.ra.row; rw [HN.out] at this; exact this) ⟨w3.heap.size, 0, none⟩ 1 1 [.int .i64 k, .slice p3 x.length cc3, .int .i64 z] (by rfl) (by rfl) (fun j u hj => HN4.out j u hj) (by simp [Value.oneCell']) (by decide) HFT.out.1 HFT.out.2 (Nat.le_trans HX4.out.log.bl (Nat.le_of_lt (lt_of_block HX4.out.log.cell))) _ HSZ4.out ?_
          intro gg cc w5 own5 grow5 hat5 hlt5
          have HO5 : Hid (Only (fun k => (Value.slice p n c).ownBlock = some k) (w3.alloc (.cells #[.int .i64 k, .slice p3 x.length cc3, .int .i64 z] 112)) w5) := Lib.hid ((Only.refl _ _).grown grow5 (fun k _ e => e))
          have HOW5 : Hid (w5.ownsRow B 112 3 (.slice (some ⟨gg, 0, none⟩) (n + 1) cc) (n + 1) (lrows 0 E ++ rrow (ends (rcs E)) (.slice p3 x.length cc3, k, x))) := Lib.hid (by rw [rrow, ← HEN.out, ← HZ.out]; exact own5)
          have HAT5 := Lib.hid hat5
          have HGL5 := Lib.hid hlt5
          have hl5 := (HO5.out.block l (lt_of_block HX4.out.log.cell) HX4.out.log.ne_row).trans HX4.out.log.cell
          have c5 : w5.cell? ⟨l, 2, none⟩ = some (.slice p n c) := by rw [cell_of_row w5 l 2 _ _ _ hl5]; rfl
          have f5 : w5.frozen? ⟨l, 2, none⟩ = false := by simp [World.frozen?, hl5]
          clear own5 grow5 hat5 hlt5 hl5
          refine HK.out _ _ ?_
          clear HK K
          try simp only [Act.put, List.setIfInBounds_toArray, List.set_cons_zero, List.set_cons_succ]
          refine wpAny_take (i := 16) (v := ?_) (by simp only [List.getElem?_toArray, List.getElem?_cons_succ, List.getElem?_cons_zero]; rfl) (by kernel_rfl) (by kernel_rfl) (by kernel_rfl) (fun _ _ _ h => h) (Or.inl ⟨by rfl, ?_⟩) ?_
          rotate_left
          · intro w
            go_simp
            try with_reducible rfl
          try simp only [Act.put, List.setIfInBounds_toArray, List.set_cons_zero, List.set_cons_succ]
          refine wpAny_take (i := 17) (v := ?_) (by simp only [List.getElem?_toArray, List.getElem?_cons_succ, List.getElem?_cons_zero]; rfl) (by kernel_rfl) (by kernel_rfl) (by kernel_rfl) (fun _ _ _ h => h) (Or.inl ⟨by rfl, ?_⟩) ?_
          rotate_left
          · intro w
            go_simp
            try with_reducible rfl
          try simp only [Act.put, List.setIfInBounds_toArray, List.set_cons_zero, List.set_cons_succ]
          refine wpAny_ready (rs := [18]) (by kernel_rfl) (by simp) ?_
          refine (AllReady.cons (by simp only [List.getElem?_toArray, List.getElem?_cons_succ, List.getElem?_cons_zero]; rfl) (fun K hK => ?_) AllReady.nil)
          have HK := Lib.hid hK
          clear hK
          go_simp
          refine HK.out _ _ ?_
          clear HK K
          try simp only [Act.put, List.setIfInBounds_toArray, List.set_cons_zero, List.set_cons_succ]
          refine wpAny_done (by kernel_rfl) ?_ _
          refine NoPanic.normal ?_
          clear c2 c2d c3 c4 c5 f5
          go_wp2_with fail
          go_ret
          refine ⟨by rw [HAD.out]; exact eno_0, ?_⟩
          rw [HAD.out]
          have HX4' := HX4.out
          have HOW5' := HOW5.out
          rw [HN.out] at HX4' HOW5' ⊢
          exact add_end HD.out HO2.out HX4' HS2.out (fun j hj => HX2.out.lt j (.inr hj)) HB4.out HV4.out HRK.out hR HOW5' (by have := HO5.out; rw [HN.out] at this; exact this) (by have := HAT5.out; rw [HN.out] at this; exact this) (Nat.le_trans HB3.out.size (Nat.le_succ _)) HGL5.out
end Go.Proofs.YtbpccbhlggcmfaaGreatDoor
