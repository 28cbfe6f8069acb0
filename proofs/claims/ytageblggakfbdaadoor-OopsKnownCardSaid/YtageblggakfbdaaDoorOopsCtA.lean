/- Kind, Where and Whose over a chain. Condition: errors.errorType holds what its text lays; at most 131072 layers. -/
import Derived.Test.YtageblggakfbdaaDoorOopsFst
namespace Go.Proofs.YtageblggakfbdaaDoor
open Go.RowKit Go.Extern.Stop Go.Stop Go.Extern

theorem kind_nil (w : World) : Calls Tryd.prog 15 #[.nilIface] w fun e w' => e = .returned (.int .i64 0) ∧ w = w' := by
  go_enter Tryd.func15, Tryd.ntmps15
  go_wp2
  go_ret
  exact ⟨rfl, rfl⟩

set_option maxHeartbeats 1000000 in
theorem kind_any (w : World) (L : List Lnk) (b : Value) (hb : Base b) (hg : Glob w) (hc : Ch w L b) (hl : L.length ≤ 131072) :
    Calls Tryd.prog 15 #[val L b] w fun e w' => e = .returned (.int .i64 (kindOf b)) ∧ Below w.heap.size w w' := by
  have HF := Lib.hid (fstE w L b (.inl hb) hg hc hl)
  obtain ⟨sv, xv, hv⟩ := val_iface hb L
  rw [hv] at HF ⊢
  have hnn := nil_iface sv xv
  clear hc hg hl hv
  have hkey : (fnd 29 L b = some (.int .i64 (kindOf b))) ∨ (fnd 29 L b = none ∧ kindOf b = 1) := by
    rcases hb with ⟨k, rfl⟩ | rfl | ⟨p, rfl⟩
    · exact .inl (fnd_kind L k)
    · exact .inr ⟨fnd_strange L, rfl⟩
    · exact .inr ⟨fnd_new L p, rfl⟩
  rcases hkey with h | ⟨h, hk⟩
  · rw [h] at HF
    simp only [Option.getD_some, Option.isSome_some] at HF
    clear h hb
    go_enter Tryd.func15, Tryd.ntmps15
    go_wp2_with (go_at_call 37; refine HF.out.mono ?_; rintro e w' ⟨rfl, R⟩; have HR := Lib.hid R; clear R)
    go_ret
    exact ⟨rfl, HR.out⟩
  · rw [h] at HF
    simp only [Option.getD_none, Option.isSome_none] at HF
    rw [hk]
    clear h hb hk
    go_enter Tryd.func15, Tryd.ntmps15
    go_wp2_with (go_at_call 37; refine HF.out.mono ?_; rintro e w' ⟨rfl, R⟩; have HR := Lib.hid R; clear R)
    go_ret
    exact ⟨rfl, HR.out⟩

theorem where_any (w : World) (L : List Lnk) (b : Value) (hb : Base b) (hg : Glob w) (hc : Ch w L b) (hl : L.length ≤ 131072) :
    Calls Tryd.prog 12 #[val L b] w fun e w' => e = .returned (.tuple #[.int .i64 ((fplace L).getD 0), .bool (fplace L).isSome]) ∧ Below w.heap.size w w' := by
  have HF := Lib.hid (fstP w L b (.inl hb) hg hc hl)
  have hkey := fnd_place w L b hb hc
  clear hb hg hc hl
  rcases hkey with ⟨h1, h2⟩ | ⟨p, n, u, h1, h2, h3⟩
  · rw [h2] at HF
    rw [h1]
    simp only [Option.getD_none, Option.isSome_none] at HF ⊢
    clear h1 h2
    go_enter Tryd.func12, Tryd.ntmps12
    go_wp2_with (go_at_call 29; refine HF.out.mono ?_; rintro e w' ⟨rfl, R⟩; have HR := Lib.hid R; clear R)
    go_ret2
    exact ⟨rfl, HR.out⟩
  · rw [h2] at HF
    rw [h1]
    simp only [Option.getD_some, Option.isSome_some] at HF ⊢
    have H3 := Lib.hid h3
    clear h1 h2 h3
    go_enter Tryd.func12, Tryd.ntmps12
    go_wp2_with (go_at_call 29; refine HF.out.mono ?_; rintro e w' ⟨rfl, R⟩; have HR := Lib.hid R; clear R; have hx := cell_obj ((HR.out.block _ (Array.getElem?_eq_some_iff.1 H3.out).1).trans H3.out) 0 (u := .int .i64 n) rfl)
    go_ret2
    exact ⟨rfl, HR.out⟩

set_option maxRecDepth 20000 in
set_option maxHeartbeats 1000000 in
theorem whose_any (w : World) (L : List Lnk) (b : Value) (hb : Base b) (hg : Glob w) (hc : Ch w L b) (hl : L.length ≤ 131072) (hone : ∀ h, fwhich L = some h → h.all (·.oneCell') = true) :
    Calls Tryd.prog 13 #[val L b] w fun e w' => e = .returned (.tuple #[.agg ((fwhich L).getD zeros), .bool (fwhich L).isSome]) ∧ Below w.heap.size w w' := by
  have bl := (Below.refl w.heap.size w).alloc (Nat.le_refl _) (.cells zeros 23)
  have HF := Lib.hid (fstW _ L b (.inl hb) (hg.kb bl) (hc.kb bl) hl)
  have hkey := fnd_which w L b hb hc
  have hlast := heap_alloc_last w (.cells zeros 23)
  have HB := Lib.hid bl
  have HL := Lib.hid hlast
  clear hb hg hc hl bl hlast
  rcases hkey with ⟨h1, h2⟩ | ⟨p, q, u, h1, h2, h3, h4⟩
  · rw [h2] at HF
    rw [h1]
    simp only [Option.getD_none, Option.isSome_none] at HF ⊢
    clear h1 h2
    go_enter Tryd.func13, Tryd.ntmps13
    go_wp2_with (first
      | (go_at_call 31; refine HF.out.mono ?_; rintro e w' ⟨rfl, R⟩; have HT := Lib.hid (there_row ((R.block w.heap.size (by simp)).trans HL.out)); have HR := Lib.hid R; clear R)
      | (refine build_to (vals := #[]) zeros_built ?hv ?_; (case hv => simp); refine store_to HT.out (size_hash zeros rfl) zeros_one ?hx ?hy ?_; (case hx => rfl); (case hy => rfl)))
    refine bodyPost_ret (v := .tuple #[.agg zeros, .bool false]) ?_ rfl ⟨rfl, ?_⟩
    · have hl := loaded (P := Tryd.prog) (t := 23) (q := zeros) HT.out Tryd.underlying23 rfl (size_hash zeros rfl)
      generalize w'.setCells w.heap.size 0 (zeros).toList = W3 at hl ⊢
      simp only [results, Tryd.results13]
      simp [hl, asAddr]
    · exact (((Only.of_below HB.out).trans (Only.of_below (S := fun k => w.heap.size ≤ k) HR.out) (fun _ h => h) (fun _ _ h => h)).setCells (b := w.heap.size) (Nat.le_refl _) _ 0).below (Nat.le_refl _) (fun _ h => h)
  · rw [h2] at HF
    rw [h1]
    simp only [Option.getD_some, Option.isSome_some] at HF ⊢
    have H3 := Lib.hid h3
    have H4 := Lib.hid h4
    have H5 := Lib.hid (hone q h1)
    have hsz : (Tryd.prog.info? 23).map (·.size) = some q.toList.length := size_hash' q h4
    have HZ := Lib.hid hsz
    clear h1 h2 h3 h4 hone hsz
    go_enter Tryd.func13, Tryd.ntmps13
    go_wp2_with (first
      | (go_at_call 31; refine HF.out.mono ?_; rintro e w' ⟨rfl, R⟩; have HT := Lib.hid (there_row ((R.block w.heap.size (by simp)).trans HL.out)); have HR := Lib.hid R; clear R; have HX := Lib.hid (range_push ((HR.out.block _ (by have := (Array.getElem?_eq_some_iff.1 H3.out).1; simp; omega)).trans ((HB.out.block _ (Array.getElem?_eq_some_iff.1 H3.out).1).trans H3.out))); have HT2 := Lib.hid (show w'.there w.heap.size 0 q.size from by have := HT.out; rw [H4.out]; exact this))
      | (refine load_to HX.out Tryd.underlying23 rfl HZ.out ?hx ?_; (case hx => rfl); refine store_to HT2.out (size_hash q H4.out) H5.out ?hx ?hy ?_; (case hx => rfl); (case hy => simp [Act.put, Act.eval])))
    refine bodyPost_ret (v := .tuple #[.agg q, .bool true]) ?_ rfl ⟨rfl, ?_⟩
    · have hl := loaded (P := Tryd.prog) (t := 23) (q := q) HT2.out Tryd.underlying23 rfl (size_hash q H4.out)
      generalize w'.setCells w.heap.size 0 (q).toList = W3 at hl ⊢
      simp only [results, Tryd.results13]
      simp [hl, asAddr]
    · exact (((Only.of_below HB.out).trans (Only.of_below (S := fun k => w.heap.size ≤ k) HR.out) (fun _ h => h) (fun _ _ h => h)).setCells (b := w.heap.size) (Nat.le_refl _) _ 0).below (Nat.le_refl _) (fun _ h => h)
set_option maxRecDepth 20000 in
set_option maxHeartbeats 1000000 in
theorem whose_nil (w : World) (hg : Glob w) : Calls Tryd.prog 13 #[.nilIface] w fun e w' => e = .returned (.tuple #[.agg zeros, .bool false]) ∧ Below w.heap.size w w' := by
  have bl := (Below.refl w.heap.size w).alloc (Nat.le_refl _) (.cells zeros 23)
  have HF := Lib.hid (fstW (w.alloc (.cells zeros 23)) [] .nilIface (.inr ⟨rfl, rfl⟩) (hg.kb bl) trivial (by decide))
  have hfn : fnd 37 [] .nilIface = none := by rw [fnd_nil _ _ (.inr rfl)]; rfl
  rw [hfn] at HF
  rw [show val [] .nilIface = .nilIface from rfl] at HF
  simp only [Option.getD_none, Option.isSome_none] at HF
  have hlast := heap_alloc_last w (.cells zeros 23)
  have HB := Lib.hid bl
  have HL := Lib.hid hlast
  clear bl hlast hg
  go_enter Tryd.func13, Tryd.ntmps13
  go_wp2_with (first
    | (go_at_call 31; refine HF.out.mono ?_; rintro e w' ⟨rfl, R⟩; have HT := Lib.hid (there_row ((R.block w.heap.size (by simp)).trans HL.out)); have HR := Lib.hid R; clear R)
    | (refine build_to (vals := #[]) zeros_built ?hv ?_; (case hv => simp); refine store_to HT.out (size_hash zeros rfl) zeros_one ?hx ?hy ?_; (case hx => rfl); (case hy => rfl)))
  refine bodyPost_ret (v := .tuple #[.agg zeros, .bool false]) ?_ rfl ⟨rfl, ?_⟩
  · have hl := loaded (P := Tryd.prog) (t := 23) (q := zeros) HT.out Tryd.underlying23 rfl (size_hash zeros rfl)
    generalize w'.setCells w.heap.size 0 (zeros).toList = W3 at hl ⊢
    simp only [results, Tryd.results13]
    simp [hl, asAddr]
  · exact (((Only.of_below HB.out).trans (Only.of_below (S := fun k => w.heap.size ≤ k) HR.out) (fun _ h => h) (fun _ _ h => h)).setCells (b := w.heap.size) (Nat.le_refl _) _ 0).below (Nat.le_refl _) (fun _ h => h)

end Go.Proofs.YtageblggakfbdaaDoor
