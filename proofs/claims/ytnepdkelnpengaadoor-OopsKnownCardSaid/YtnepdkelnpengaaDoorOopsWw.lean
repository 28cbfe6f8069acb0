/- Where and Whose over a chain: the first place, the first hash, or none. Condition: errors.errorType holds what its text lays; at most 131072 layers. -/
import Derived.Test.YtnepdkelnpengaaDoorOopsFirst
namespace Go.Proofs.YtnepdkelnpengaaDoor
open Go.RowKit Go.Extern.Stop Go.Stop Go.Extern

/-- The outermost place of the chain. -/
def fplace : List Lnk → Option Int
  | [] => none
  | .place _ n :: _ => some n
  | _ :: L => fplace L
/-- The outermost hash of the chain. -/
def fwhich : List Lnk → Option (Array Value)
  | [] => none
  | .which _ h :: _ => some h
  | _ :: L => fwhich L

theorem fnd_place (w : World) : ∀ (L : List Lnk) (b : Value), Base b → Ch w L b → (fplace L = none ∧ fnd 55 L b = none) ∨ ∃ p n u, fplace L = some n ∧ fnd 55 L b = some (.pointer (some ⟨p, 0, none⟩)) ∧ w.heap[p]? = some (.cells #[.int .i64 n, u] 62 (0, 0))
  | [], b, hb, _ => .inl ⟨rfl, by rcases hb with ⟨k, rfl⟩ | rfl | ⟨p, rfl⟩ <;> simp [fnd]⟩
  | .step p s :: L, b, hb, hc => by rw [fplace, fnd, if_neg (by simp [Lnk.ty])]; exact fnd_place w L b hb hc.2.2.2; all_goals (intros; contradiction)
  | .which p s :: L, b, hb, hc => by rw [fplace, fnd, if_neg (by simp [Lnk.ty])]; exact fnd_place w L b hb hc.2.2.2; all_goals (intros; contradiction)
  | .place p n :: L, b, hb, hc => .inr ⟨p, n, val L b, rfl, by simp [fnd, Lnk.ty, Lnk.blk], hc.1⟩
theorem fnd_which (w : World) : ∀ (L : List Lnk) (b : Value), Base b → Ch w L b → (fwhich L = none ∧ fnd 37 L b = none) ∨ ∃ p h u, fwhich L = some h ∧ fnd 37 L b = some (.pointer (some ⟨p, 0, none⟩)) ∧ w.heap[p]? = some (.cells (h.push u) 41 (0, 0)) ∧ h.size = 32
  | [], b, hb, _ => .inl ⟨rfl, by rcases hb with ⟨k, rfl⟩ | rfl | ⟨p, rfl⟩ <;> simp [fnd]⟩
  | .step p s :: L, b, hb, hc => by rw [fwhich, fnd, if_neg (by simp [Lnk.ty])]; exact fnd_which w L b hb hc.2.2.2; all_goals (intros; contradiction)
  | .place p s :: L, b, hb, hc => by rw [fwhich, fnd, if_neg (by simp [Lnk.ty])]; exact fnd_which w L b hb hc.2.2.2; all_goals (intros; contradiction)
  | .which p h :: L, b, hb, hc => .inr ⟨p, h, val L b, rfl, by simp [fnd, Lnk.ty, Lnk.blk], hc.1, hc.2.1⟩

theorem where_any (w : World) (L : List Lnk) (b : Value) (hb : Base b) (hg : Glob w) (hc : Ch w L b) (hl : L.length ≤ 131072) :
    Calls Tryd.prog 12 #[val L b] w fun e w' => e = .returned (.tuple #[.int .i64 ((fplace L).getD 0), .bool (fplace L).isSome]) ∧ Below w.heap.size w w' := by
  have HF := Lib.hid (firstP w L b hb hg hc hl (ok_ptr _ (by decide) (by decide) L b hb))
  have hkey := fnd_place w L b hb hc
  clear hb hg hc hl
  rcases hkey with ⟨h1, h2⟩ | ⟨p, n, u, h1, h2, h3⟩
  · rw [h2] at HF
    rw [h1]
    simp only [Option.getD_none, Option.isSome_none] at HF ⊢
    clear h1 h2
    go_enter Tryd.func12, Tryd.ntmps12
    go_wp2_with (go_at_call 30; refine HF.out.mono ?_; rintro e w' ⟨rfl, R⟩; have HR := Lib.hid R; clear R)
    go_ret2
    exact ⟨rfl, HR.out⟩
  · rw [h2] at HF
    rw [h1]
    simp only [Option.getD_some, Option.isSome_some] at HF ⊢
    have H3 := Lib.hid h3
    clear h1 h2 h3
    go_enter Tryd.func12, Tryd.ntmps12
    go_wp2_with (go_at_call 30; refine HF.out.mono ?_; rintro e w' ⟨rfl, R⟩; have HR := Lib.hid R; clear R; have hx := cell_obj ((HR.out.block _ (Array.getElem?_eq_some_iff.1 H3.out).1).trans H3.out) 0 (u := .int .i64 n) rfl)
    go_ret2
    exact ⟨rfl, HR.out⟩

/-- The hash of zeros. -/
def zeros : Array Value := #[.int .u8 0, .int .u8 0, .int .u8 0, .int .u8 0, .int .u8 0, .int .u8 0, .int .u8 0, .int .u8 0, .int .u8 0, .int .u8 0, .int .u8 0, .int .u8 0, .int .u8 0, .int .u8 0, .int .u8 0, .int .u8 0, .int .u8 0, .int .u8 0, .int .u8 0, .int .u8 0, .int .u8 0, .int .u8 0, .int .u8 0, .int .u8 0, .int .u8 0, .int .u8 0, .int .u8 0, .int .u8 0, .int .u8 0, .int .u8 0, .int .u8 0, .int .u8 0]
theorem range_push {w : World} {p : Nat} {h : Array Value} {u : Value} {t : TypeId} (hp : w.heap[p]? = some (.cells (h.push u) t (0, 0))) : w.rangeAt p 0 h.toList := fun j v hv => by
  rw [Nat.zero_add, cell_of_row w p j (h.push u) t (0, 0) hp]
  have hj := (List.getElem?_eq_some_iff.1 hv).1
  rw [Array.getElem?_push, if_neg (by simp at hj; omega)]
  simpa using hv
theorem zeros_one : zeros.all (·.oneCell') = true := by simp [zeros, Value.oneCell']
theorem zeros_built : Tryd.prog.built 23 (#[] : Array (Nat × Value)).toList = some zeros := by kernel_rfl
theorem zeros_info : (Tryd.prog.info? 23).map (fun i => (i.zero, i.size)) = some (some (.agg zeros), 32) := by kernel_rfl

set_option maxRecDepth 20000 in
set_option maxHeartbeats 1000000 in
theorem whose_any (w : World) (L : List Lnk) (b : Value) (hb : Base b) (hg : Glob w) (hc : Ch w L b) (hl : L.length ≤ 131072) (hone : ∀ h, fwhich L = some h → h.all (·.oneCell') = true) :
    Calls Tryd.prog 13 #[val L b] w fun e w' => e = .returned (.tuple #[.agg ((fwhich L).getD zeros), .bool (fwhich L).isSome]) ∧ Below w.heap.size w w' := by
  have bl := (Below.refl w.heap.size w).alloc (Nat.le_refl _) (.cells zeros 23)
  have HF := Lib.hid (firstW _ L b hb (hg.kb bl) (hc.kb bl) hl (ok_ptr _ (by decide) (by decide) L b hb))
  have hkey := fnd_which w L b hb hc
  have hlast := heap_alloc_last w (.cells zeros 23)
  have HB := Lib.hid bl
  have HL := Lib.hid hlast
  clear hb hg hc hl bl hlast
  rcases hkey with ⟨h1, h2⟩ | ⟨p, q, u, h1, h2, h3, h4⟩
  · rw [h2] at HF
    rw [h1]
    simp only [Option.getD_none, Option.isSome_none] at HF ⊢
    clear h1 h2
    go_enter Tryd.func13, Tryd.ntmps13
    go_wp2_with (first
      | (go_at_call 31; refine HF.out.mono ?_; rintro e w' ⟨rfl, R⟩; have HT := Lib.hid (there_row ((R.block w.heap.size (by simp)).trans HL.out)); have HR := Lib.hid R; clear R)
      | (refine build_to (vals := #[]) zeros_built ?hv ?_; (case hv => simp); refine store_to HT.out (size_hash zeros rfl) zeros_one ?hx ?hy ?_; (case hx => rfl); (case hy => rfl)))
    refine bodyPost_ret (v := .tuple #[.agg zeros, .bool false]) ?_ rfl ⟨rfl, ?_⟩
    · have hl := loaded (P := Tryd.prog) (t := 23) (q := zeros) HT.out Tryd.underlying23 rfl (size_hash zeros rfl)
      generalize w'.setCells w.heap.size 0 (zeros).toList = W3 at hl ⊢
      simp only [results, Tryd.results13]
      simp [hl, asAddr]
    · exact (((Only.of_below HB.out).trans (Only.of_below (S := fun k => w.heap.size ≤ k) HR.out) (fun _ h => h) (fun _ _ h => h)).setCells (b := w.heap.size) (Nat.le_refl _) _ 0).below (Nat.le_refl _) (fun _ h => h)
  · rw [h2] at HF
    rw [h1]
    simp only [Option.getD_some, Option.isSome_some] at HF ⊢
    have H3 := Lib.hid h3
    have H4 := Lib.hid h4
    have H5 := Lib.hid (hone q h1)
    have hsz : (Tryd.prog.info? 23).map (·.size) = some q.toList.length := size_hash' q h4
    have HZ := Lib.hid hsz
    clear h1 h2 h3 h4 hone hsz
    go_enter Tryd.func13, Tryd.ntmps13
    go_wp2_with (first
      | (go_at_call 31; refine HF.out.mono ?_; rintro e w' ⟨rfl, R⟩; have HT := Lib.hid (there_row ((R.block w.heap.size (by simp)).trans HL.out)); have HR := Lib.hid R; clear R; have HX := Lib.hid (range_push ((HR.out.block _ (by have := (Array.getElem?_eq_some_iff.1 H3.out).1; simp; omega)).trans ((HB.out.block _ (Array.getElem?_eq_some_iff.1 H3.out).1).trans H3.out))); have HT2 := Lib.hid (show w'.there w.heap.size 0 q.size from by have := HT.out; rw [H4.out]; exact this))
      | (refine load_to HX.out Tryd.underlying23 rfl HZ.out ?hx ?_; (case hx => rfl); refine store_to HT2.out (size_hash q H4.out) H5.out ?hx ?hy ?_; (case hx => rfl); (case hy => simp [Act.put, Act.eval])))
    refine bodyPost_ret (v := .tuple #[.agg q, .bool true]) ?_ rfl ⟨rfl, ?_⟩
    · have hl := loaded (P := Tryd.prog) (t := 23) (q := q) HT2.out Tryd.underlying23 rfl (size_hash q H4.out)
      generalize w'.setCells w.heap.size 0 (q).toList = W3 at hl ⊢
      simp only [results, Tryd.results13]
      simp [hl, asAddr]
    · exact (((Only.of_below HB.out).trans (Only.of_below (S := fun k => w.heap.size ≤ k) HR.out) (fun _ h => h) (fun _ _ h => h)).setCells (b := w.heap.size) (Nat.le_refl _) _ 0).below (Nat.le_refl _) (fun _ h => h)
end Go.Proofs.YtnepdkelnpengaaDoor
