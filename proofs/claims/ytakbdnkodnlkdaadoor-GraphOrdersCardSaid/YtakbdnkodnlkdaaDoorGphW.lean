/- What the hand tells of a refusal: Kind, Whose. Condition: errors.errorType holds what its text lays. -/
import Derived.Test.YtakbdnkodnlkdaaDoorGphV
namespace Go.Proofs.YtakbdnkodnlkdaaDoor
open Go.RowKit Go.Extern.Stop Go.Stop Go.Extern
open Go.Maps

def kindOf : Rf → Int
  | none => 0
  | some (k, _) => k
def whoH : Rf → Key
  | some (_, some h) => h
  | _ => hz
def whoB : Rf → Bool
  | some (_, some _) => true
  | _ => false
theorem as_tgtE (w : World) (p : Nat) (q : Array Value) (k : Int) (hg : Glob w) (tb : Nat) (old : Value) (htb : w.heap[tb]? = some (.cells #[old] 42 (0, 0))) (hc : Wh w p q k) :
    Calls Tryd.prog 38 #[whv p, .iface 82 (.pointer (some ⟨tb, 0, none⟩))] w fun e w' => AsPost w tb 42 old (some (.int .i64 k)) e w' :=
  as_any11 tgtE w _ _ _ hg tb old htb fun W hW a ha ht => asEW W p q k (hc.kb hW) a tb old ha ht
theorem as_tgtW (w : World) (p : Nat) (q : Array Value) (k : Int) (hg : Glob w) (tb : Nat) (old : Value) (htb : w.heap[tb]? = some (.cells #[old] 76 (0, 0))) (hc : Wh w p q k) :
    Calls Tryd.prog 38 #[whv p, .iface 78 (.pointer (some ⟨tb, 0, none⟩))] w fun e w' => AsPost w tb 76 old (some (.pointer (some ⟨p, 0, none⟩))) e w' :=
  as_any11 tgtW w _ _ _ hg tb old htb fun W hW a ha ht => asWW W p q k (hc.kb hW) a tb old ha ht
theorem as_tgtWE (w : World) (k : Int) (hg : Glob w) (tb : Nat) (old : Value) (htb : w.heap[tb]? = some (.cells #[old] 76 (0, 0))) :
    Calls Tryd.prog 38 #[kind k, .iface 78 (.pointer (some ⟨tb, 0, none⟩))] w fun e w' => AsPost w tb 76 old none e w' :=
  as_any11 tgtW w _ _ _ hg tb old htb fun W _ a ha ht => asWE W k a tb old ha ht
set_option maxHeartbeats 1600000 in
theorem kind_to (w : World) (v : Value) (r : Rf) (hg : Glob w) (he : ErrW w v r) (hr : ∀ k o, r = some (k, o) → k ≠ 0) : Calls Tryd.prog 15 #[v] w fun e w' => e = .returned (.int .i64 (kindOf r)) ∧ Below w.heap.size w w' := by
  match r, he, hr with
  | none, he, _ =>
    obtain rfl : v = .nilIface := he
    exact khand_any w 0 hg
  | some (k, none), he, hr =>
    obtain rfl : v = kind k := he
    have := khand_any w k hg
    rw [show errOf k = kind k from if_neg (hr k none rfl)] at this
    exact this
  | some (k, some h), he, _ =>
    obtain ⟨hh, p, rfl, hc⟩ := he
    have b1 := (Below.refl w.heap.size w).alloc (Nat.le_refl _) (.cells #[.int .i64 0] 42)
    have hn := nil_iface 76 (.pointer (some ⟨p, 0, none⟩))
    have HA := Lib.hid (as_tgtE (w.alloc (.cells #[.int .i64 0] 42)) p (hv h) k (hg.kb b1) w.heap.size (.int .i64 0) (heap_alloc_new w _) (hc.kb b1))
    show Calls _ _ _ _ fun e w' => e = .returned (.int .i64 k) ∧ _
    clear hg hc b1 hh
    go_enter Tryd.func15, Tryd.ntmps15
    go_wp2_with (go_at_call 38; refine HA.out.mono ?_; rintro e w' ⟨rfl, R1, R2⟩; have HR := Lib.hid R1; have hc := cell_obj R2 0 rfl; clear R1 R2; simp only [Option.isSome, Option.getD] at hc ⊢)
    go_ret
    exact ⟨rfl, ((Below.refl _ _).alloc (Nat.le_refl _) _).trans (HR.out.below (by simp) (fun k hk => hk ▸ Nat.le_refl _))⟩
theorem load_back {w : World} {b : Nat} {q : Key} (hq : q.length = 32) (ht : w.there b 0 32) : (hld ⟨b, 0, none⟩).run Tryd.prog (w.setCells b 0 (hv q).toList) = .ok (.agg (hv q)) (w.setCells b 0 (hv q).toList) := by
  have := loaded (P := Tryd.prog) (t := 26) (q := hv q) (by rw [hv_size, hq]; exact ht) Tryd.underlying26 rfl (hinfo (hv q) (by rw [hv_size, hq]))
  exact this
theorem there32 {w : World} {b : Nat} {q : Array Value} {t : TypeId} (hs : q.size = 32) (h : w.heap[b]? = some (.cells q t (0, 0))) : w.there b 0 32 := by
  have := there_row h
  rwa [hs] at this
theorem hv_all (h : Key) : (hv h).all (·.oneCell') = true := hv_one h
set_option maxRecDepth 20000 in
set_option maxHeartbeats 600000 in
theorem whose_to (w : World) (v : Value) (r : Rf) (hg : Glob w) (he : ErrW w v r) : Calls Tryd.prog 12 #[v] w fun e w' => e = .returned (.tuple #[.agg (hv (whoH r)), .bool (whoB r)]) ∧ Below w.heap.size w w' := by
  have b1 : Below w.heap.size w (w.alloc (.cells hzer 26)) := (Below.refl _ w).alloc (Nat.le_refl _) _
  have b2 : Below w.heap.size w ((w.alloc (.cells hzer 26)).alloc (.cells #[.pointer none] 76)) := b1.alloc b1.size _
  have hs1 : (w.alloc (.cells hzer 26)).heap.size = w.heap.size + 1 := by simp
  have h0 : ((w.alloc (.cells hzer 26)).alloc (.cells #[.pointer none] 76)).heap[w.heap.size]? = some (.cells hzer 26 (0, 0)) := (Below.heap_alloc _ _ _ (by rw [hs1]; omega)).trans (heap_alloc_last w _)
  have h1 : ((w.alloc (.cells hzer 26)).alloc (.cells #[.pointer none] 76)).heap[w.heap.size + 1]? = some (.cells #[.pointer none] 76 (0, 0)) := by
    have := heap_alloc_last (w.alloc (.cells hzer 26)) (.cells #[.pointer none] 76)
    rwa [hs1] at this
  have H0 := Lib.hid h0
  have B2 := Lib.hid b2
  have fin : ∀ (w' : World), Only (fun k => k = w.heap.size + 1) ((w.alloc (.cells hzer 26)).alloc (.cells #[.pointer none] 76)) w' → ∀ q : Key, Below w.heap.size w (w'.setCells w.heap.size 0 (hv q).toList) := fun w' ho q =>
    (((Only.of_below (S := fun k => w.heap.size ≤ k) b2).trans ho (fun _ h => h) (fun k _ e => by have e' : k = w.heap.size + 1 := e; show w.heap.size ≤ k; omega)).setCells (b := w.heap.size) (Nat.le_refl _) _ 0).below (Nat.le_refl _) (fun _ h => h)
  have FIN := Lib.hid fin
  have hh0 : ∀ w' : World, Only (fun k => k = w.heap.size + 1) ((w.alloc (.cells hzer 26)).alloc (.cells #[.pointer none] 76)) w' → w'.there w.heap.size 0 32 := fun w' ho =>
    there32 (q := hzer) rfl ((ho.block _ (Array.getElem?_eq_some_iff.1 h0).1 (by omega)).trans h0)
  have HTH := Lib.hid hh0
  match r, he with
  | none, he =>
    obtain rfl : v = .nilIface := he
    show Calls _ _ _ _ fun e w' => e = .returned (.tuple #[.agg (hv hz), .bool false]) ∧ _
    have HA := Lib.hid (as_nil (.iface 78 (.pointer (some ⟨w.heap.size + 1, 0, none⟩))))
    clear hg b1 b2 h0 h1 fin hh0
    go_enter Tryd.func12, Tryd.ntmps12
    go_wp2_with fail
    refine (HA.out _).mono ?_
    rintro e w' ⟨rfl, hw⟩
    have HR : Hid (Only (fun k => k = w.heap.size + 1) ((w.alloc (.cells hzer 26)).alloc (.cells #[.pointer none] 76)) w') := Lib.hid (by rw [← hw]; exact Only.refl _ _)
    clear hw
    have HT : Hid (w'.there w.heap.size 0 hzer.size) := Lib.hid (HTH.out _ HR.out)
    go_wp2_with (refine build_to (vals := #[]) hbuilt ?hv ?_; (case hv => simp); refine store_to HT.out (hinfo hzer rfl) (hv_one hz) ?hx ?hy ?_; (case hx => rfl); (case hy => rfl))
    refine bodyPost_ret (v := .tuple #[.agg hzer, .bool false]) ?_ rfl ⟨rfl, FIN.out _ HR.out hz⟩
    have hl := load_back (q := hz) rfl (HTH.out _ HR.out)
    rw [hz_hv] at hl
    generalize w'.setCells w.heap.size 0 hzer.toList = W3 at hl ⊢
    simp only [results, Tryd.results12]
    simp [hl, asAddr, hld_open]
  | some (k, none), he =>
    obtain rfl : v = kind k := he
    show Calls _ _ _ _ fun e w' => e = .returned (.tuple #[.agg (hv hz), .bool false]) ∧ _
    have HA := Lib.hid (as_tgtWE _ k (hg.kb b2) (w.heap.size + 1) (.pointer none) h1)
    clear hg b1 b2 h0 h1 fin hh0
    go_enter Tryd.func12, Tryd.ntmps12
    go_wp2_with fail
    refine HA.out.mono ?_
    rintro e w' ⟨rfl, R1, R2⟩
    have HR := Lib.hid R1
    clear R1 R2
    simp only [Option.isSome]
    have HT : Hid (w'.there w.heap.size 0 hzer.size) := Lib.hid (HTH.out _ HR.out)
    go_wp2_with (refine build_to (vals := #[]) hbuilt ?hv ?_; (case hv => simp); refine store_to HT.out (hinfo hzer rfl) (hv_one hz) ?hx ?hy ?_; (case hx => rfl); (case hy => rfl))
    refine bodyPost_ret (v := .tuple #[.agg hzer, .bool false]) ?_ rfl ⟨rfl, FIN.out _ HR.out hz⟩
    have hl := load_back (q := hz) rfl (HTH.out _ HR.out)
    rw [hz_hv] at hl
    generalize w'.setCells w.heap.size 0 hzer.toList = W3 at hl ⊢
    simp only [results, Tryd.results12]
    simp [hl, asAddr, hld_open]
  | some (k, some h), he =>
    obtain ⟨hh, p, rfl, hc⟩ := he
    show Calls _ _ _ _ fun e w' => e = .returned (.tuple #[.agg (hv h), .bool true]) ∧ _
    have HA := Lib.hid (as_tgtW _ p (hv h) k (hg.kb b2) (w.heap.size + 1) (.pointer none) h1 (hc.kb b2))
    have hpl : p < w.heap.size := (Array.getElem?_eq_some_iff.1 hc.1).1
    have HX := Lib.hid (fun (w' : World) (ho : Only (fun k => k = w.heap.size + 1) ((w.alloc (.cells hzer 26)).alloc (.cells #[.pointer none] 76)) w') =>
      show w'.rangeAt p 0 (us (nmb h)) from fun j u hj => by
        have h2 := (ho.block p (Array.getElem?_eq_some_iff.1 (hc.kb b2).1).1 (by omega)).trans (hc.kb b2).1
        have hjl : j < 32 := by have := (List.getElem?_eq_some_iff.1 hj).1; rwa [usn_length, hh] at this
        rw [Nat.zero_add, cell_of_row w' p j _ _ _ h2, Array.getElem?_push, if_neg (by rw [hv_size, hh]; omega)]
        rw [← Array.getElem?_toList, hv_list]; exact hj)
    have HH := Lib.hid hh
    have HHI := Lib.hid (hinfo (hv h) (by rw [hv_size, hh]))
    have HHI' := Lib.hid (hinfo' (hv h) (by rw [hv_size, hh]))
    clear hg b1 b2 h0 h1 fin hh0 hc hh hpl
    go_enter Tryd.func12, Tryd.ntmps12
    go_wp2_with fail
    refine HA.out.mono ?_
    rintro e w' ⟨rfl, R1, R2⟩
    have HR := Lib.hid R1
    have hc := cell_obj R2 0 rfl
    clear R1 R2
    simp only [Option.isSome, Option.getD] at hc ⊢
    have HT : Hid (w'.there w.heap.size 0 (hv h).size) := Lib.hid (by rw [hv_size, HH.out]; exact HTH.out _ HR.out)
    have hnn : ∀ w : World, (binOp .neq 76 (.pointer (some ⟨p, 0, none⟩)) (.pointer none)).run Tryd.prog w = .ok (.bool true) w := fun w => by kernel_rfl
    have HXX : Hid (w'.rangeAt p 0 (hv h).toList) := Lib.hid (by rw [hv_list]; exact HX.out _ HR.out)
    go_wp2_with (refine load_to HXX.out Tryd.underlying26 rfl HHI'.out ?hx ?_; (case hx => rfl); refine store_to HT.out HHI.out (hv_one h) ?hx ?hy ?_; (case hx => rfl); (case hy => simp [Act.put, Act.eval]))
    refine bodyPost_ret (v := .tuple #[.agg (hv h), .bool true]) ?_ rfl ⟨rfl, FIN.out _ HR.out h⟩
    have hl := load_back HH.out (HTH.out _ HR.out)
    generalize w'.setCells w.heap.size 0 (hv h).toList = W3 at hl ⊢
    simp only [results, Tryd.results12]
    simp [hl, asAddr, hld_open]
end Go.Proofs.YtakbdnkodnlkdaaDoor
