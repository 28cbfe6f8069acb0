/- What Steps was told: a map of its own whose keys are pointers to Steps; step. No condition. -/
import Derived.Test.YtageblggakfbdaaDoorOopsCtA
import Derived.LaidEqlPtr
import Derived.MapFrom
namespace Go.Proofs.YtageblggakfbdaaDoor
open Go.RowKit Go.Extern.Stop Go.Stop Go.Extern
open Go.MapKept

abbrev ptr (p : Nat) : Value := .pointer (some ⟨p, 0, none⟩)
/-- At block m there is a map whose keys are pointers to the Steps K. -/
def Told (w : World) (m : Nat) (K : List Nat) : Prop :=
  ∃ es clock, w.heap[m]? = some (.map es clock) ∧ es.toList.map (·.key) = K.map ptr ∧ ∀ q ∈ K, ∃ cs, w.heap[q]? = some (.cells cs 59 (0, 0))
theorem ptr_eq (w : World) (p q : Nat) (hne : p ≠ q) {ca cb : Array Value} (ha : w.heap[p]? = some (.cells ca 59 (0, 0))) (hb : w.heap[q]? = some (.cells cb 59 (0, 0))) : (Op.equal 54 (ptr p) (ptr q)).run Tryd.prog w = .ok false w := by
  obtain ⟨j, hj, hsz⟩ : ∃ j, Tryd.prog.info? 59 = some j ∧ j.size = 2 := by
    have h : (Tryd.prog.info? 59).map (·.size) = some 2 := by kernel_rfl
    obtain ⟨j, h1, h2⟩ := Option.map_eq_some_iff.1 h
    exact ⟨j, h1, h2⟩
  have h : ∀ d : Nat, (Op.equalIn (d + 1) 54 (ptr p) (ptr q)).run Tryd.prog w = .ok false w := fun d => by
    simp [Op.equalIn, run_underlying Tryd.underlying54, sizeOf, typeInfo, hj, hsz, run_sameAddr_other (P := Tryd.prog) w (a := ⟨p, 0, none⟩) (b := ⟨q, 0, none⟩) (fun e => hne (congrArg Addr.block e)) ha hb]
  simp [Op.equal, Op.maxDepth, h 9999]
theorem ask_none (w : World) (p : Nat) {ca : Array Value} (ha : w.heap[p]? = some (.cells ca 59 (0, 0))) : ∀ (es : List MapEntry) (K : List Nat) (i : Nat), es.map (·.key) = K.map ptr → p ∉ K → (∀ q ∈ K, ∃ cs, w.heap[q]? = some (.cells cs 59 (0, 0))) →
    (Instr.findAsking 54 (ptr p) es i).run Tryd.prog w = .ok none w
  | [], _, _, _, _, _ => by simp [Instr.findAsking]
  | e :: es, [], _, h, _, _ => by simp at h
  | e :: es, q :: K, i, h, hp, hc => by
    simp only [List.map_cons, List.cons.injEq] at h
    obtain ⟨cb, hb⟩ := hc q List.mem_cons_self
    have h1 := ptr_eq w p q (fun e => hp (e ▸ List.mem_cons_self)) ha hb
    have h2 := ask_none w p ha es K (i + 1) h.2 (fun e => hp (List.mem_cons_of_mem _ e)) (fun x hx => hc x (List.mem_cons_of_mem _ hx))
    simp [Instr.findAsking, h.1, h1, h2]
theorem find_none (w : World) (p : Nat) {ca : Array Value} (ha : w.heap[p]? = some (.cells ca 59 (0, 0))) (es : List MapEntry) (K : List Nat) (h : es.map (·.key) = K.map ptr) (hp : p ∉ K) (hc : ∀ q ∈ K, ∃ cs, w.heap[q]? = some (.cells cs 59 (0, 0))) :
    (Instr.findKey 54 (ptr p) es).run Tryd.prog w = .ok none w := by
  have ha := ask_none w p ha es K 0 h hp hc
  cases es with
  | nil => simp [Instr.findKey, run_underlying Tryd.underlying54, Instr.findNow]
  | cons e es =>
    have hn : ∀ d, Instr.findNow (.pointer d) (ptr p) (e :: es) 0 = none := fun d => by simp [Instr.findNow, Instr.sameNow]
    simp [Instr.findKey, run_underlying Tryd.underlying54, hn, ha]
theorem chk_any (w : World) (p : Nat) (e : Bool) : (Instr.checkKey e 10000 54 (ptr p)).run Tryd.prog w = .ok () w := by
  unfold Instr.checkKey
  simp [run_underlying Tryd.underlying54]
section
variable {w : World} {m p : Nat} {K : List Nat} {ca : Array Value}
theorem told_lookup (h : Told w m K) (hp : p ∉ K) (ha : w.heap[p]? = some (.cells ca 59 (0, 0))) : (Instr.lookup 67 (.map (some m)) (ptr p) true).run Tryd.prog w = .ok (.tuple #[.agg #[], .bool false]) w := by
  obtain ⟨es, clock, hm, hk, hc⟩ := h
  have h1 := find_none w p ha es.toList K hk hp hc
  have hgo : (getObj m).run Tryd.prog w = .ok (.map es clock) w := by simp [getObj, Sem.run, hm]
  simp [Instr.lookup, run_underlying Tryd.underlying67, hgo, chk_any, h1]
theorem told_update (h : Told w m K) (hp : p ∉ K) (ha : w.heap[p]? = some (.cells ca 59 (0, 0))) : ∃ w', (Instr.mapUpdate 67 (.map (some m)) (ptr p) (.agg #[])).run Tryd.prog w = .ok () w' ∧ Told w' m (K ++ [p]) ∧ Only (fun k => k = m) w w' := by
  obtain ⟨es, clock, hm, hk, hc⟩ := h
  have h1 := find_none w p ha es.toList K hk hp hc
  have hgo : (getObj m).run Tryd.prog w = .ok (.map es clock) w := by simp [getObj, Sem.run, hm]
  have hso : ∀ o, (setObj m o).run Tryd.prog w = .ok () { w with heap := w.heap.setIfInBounds m o } := fun o => by simp [setObj, Sem.run, hm]
  have h2 := heap_set (w := w) (o' := .map (es.push { key := ptr p, val := .agg #[], born := clock }) (clock + 1)) hm
  have hne : ∀ q cs, w.heap[q]? = some (.cells cs 59 (0, 0)) → q ≠ m := fun q cs hq e => by
    rw [e, hm] at hq
    simp at hq
  refine ⟨{ w with heap := w.heap.setIfInBounds m (.map (es.push { key := ptr p, val := .agg #[], born := clock }) (clock + 1)) }, ?_, ⟨_, _, h2.1, ?_, fun q hq => ?_⟩, ⟨rfl, rfl, rfl, by simp, fun k _ hk => h2.2 k hk⟩⟩
  · simp [Instr.mapUpdate, run_underlying Tryd.underlying67, hgo, chk_any, h1, hso]
  · simp [hk]
  · rcases List.mem_append.1 hq with hq | hq
    · obtain ⟨cs, hcs⟩ := hc q hq
      exact ⟨cs, (h2.2 q (hne q cs hcs)).trans hcs⟩
    · rw [List.mem_singleton.1 hq]
      exact ⟨ca, (h2.2 p (hne p ca ha)).trans ha⟩
theorem Told.same {w' : World} (h : Told w m K) (hb : ∀ k, (k = m ∨ k ∈ K) → k < w.heap.size → w'.heap[k]? = w.heap[k]?) : Told w' m K := by
  obtain ⟨es, clock, hm, hk, hc⟩ := h
  refine ⟨es, clock, (hb m (.inl rfl) (Array.getElem?_eq_some_iff.1 hm).1).trans hm, hk, fun q hq => ?_⟩
  obtain ⟨cs, hcs⟩ := hc q hq
  exact ⟨cs, (hb q (.inr hq) (Array.getElem?_eq_some_iff.1 hcs).1).trans hcs⟩
theorem Told.kb {w' : World} (h : Told w m K) (hb : Below w.heap.size w w') : Told w' m K := h.same (fun k _ hk => hb.block k hk)
theorem Told.jk {B : Nat} {w' : World} (h : Told w m K) (j : Jk B w w') : Told w' m K := by
  obtain ⟨es, clock, hm, hk, hc⟩ := h
  refine ⟨es, clock, ?_, hk, fun q hq => ?_⟩
  · rcases j.block m (Array.getElem?_eq_some_iff.1 hm).1 with e | ⟨_, cs, T, fr, e, _⟩
    · exact e.trans hm
    · rw [hm] at e; cases e
  · obtain ⟨cs, hcs⟩ := hc q hq
    exact ⟨cs, j.same hcs (by decide) (by decide) (by decide)⟩
end
theorem tsS (x : Value) (w : World) : (Instr.typeAssert (.iface 54 x) 25 54 true).run Tryd.prog w = .ok (.tuple #[x, .bool true]) w := by kernel_rfl
theorem tsP (x : Value) (w : World) : (Instr.typeAssert (.iface 55 x) 25 54 true).run Tryd.prog w = .ok (.tuple #[.pointer none, .bool false]) w := by kernel_rfl
theorem tsW (x : Value) (w : World) : (Instr.typeAssert (.iface 37 x) 25 54 true).run Tryd.prog w = .ok (.tuple #[.pointer none, .bool false]) w := by kernel_rfl
theorem tsE (x : Value) (w : World) : (Instr.typeAssert (.iface 29 x) 25 54 true).run Tryd.prog w = .ok (.tuple #[.pointer none, .bool false]) w := by kernel_rfl
theorem tsX (x : Value) (w : World) : (Instr.typeAssert (.iface 65 x) 25 54 true).run Tryd.prog w = .ok (.tuple #[.pointer none, .bool false]) w := by kernel_rfl
theorem tsN (x : Value) (w : World) : (Instr.typeAssert (.iface 93 x) 25 54 true).run Tryd.prog w = .ok (.tuple #[.pointer none, .bool false]) w := by kernel_rfl
theorem ts0 (w : World) : (Instr.typeAssert .nilIface 25 54 true).run Tryd.prog w = .ok (.tuple #[.pointer none, .bool false]) w := by kernel_rfl
theorem stpS (w : World) (p : Nat) : Calls Tryd.prog 28 #[.iface 54 (ptr p)] w fun e w' => e = .returned (ptr p) ∧ w = w' := by
  have h := tsS
  go_enter Tryd.func28, Tryd.ntmps28
  go_wp2
  go_ret
  exact ⟨rfl, rfl⟩
theorem stpP (w : World) (x : Value) : Calls Tryd.prog 28 #[.iface 55 x] w fun e w' => e = .returned (.pointer none) ∧ w = w' := by
  have h := tsP
  go_enter Tryd.func28, Tryd.ntmps28
  go_wp2
  go_ret
  exact ⟨rfl, rfl⟩
theorem stpW (w : World) (x : Value) : Calls Tryd.prog 28 #[.iface 37 x] w fun e w' => e = .returned (.pointer none) ∧ w = w' := by
  have h := tsW
  go_enter Tryd.func28, Tryd.ntmps28
  go_wp2
  go_ret
  exact ⟨rfl, rfl⟩
theorem stpE (w : World) (x : Value) : Calls Tryd.prog 28 #[.iface 29 x] w fun e w' => e = .returned (.pointer none) ∧ w = w' := by
  have h := tsE
  go_enter Tryd.func28, Tryd.ntmps28
  go_wp2
  go_ret
  exact ⟨rfl, rfl⟩
theorem stpX (w : World) (x : Value) : Calls Tryd.prog 28 #[.iface 65 x] w fun e w' => e = .returned (.pointer none) ∧ w = w' := by
  have h := tsX
  go_enter Tryd.func28, Tryd.ntmps28
  go_wp2
  go_ret
  exact ⟨rfl, rfl⟩
theorem stpN (w : World) (x : Value) : Calls Tryd.prog 28 #[.iface 93 x] w fun e w' => e = .returned (.pointer none) ∧ w = w' := by
  have h := tsN
  go_enter Tryd.func28, Tryd.ntmps28
  go_wp2
  go_ret
  exact ⟨rfl, rfl⟩
theorem stp0 (w : World) : Calls Tryd.prog 28 #[.nilIface] w fun e w' => e = .returned (.pointer none) ∧ w = w' := by
  have h := ts0
  go_enter Tryd.func28, Tryd.ntmps28
  go_wp2
  go_ret
  exact ⟨rfl, rfl⟩
theorem stp_base (b : Value) (hb : Base0 b) (w : World) : Calls Tryd.prog 28 #[b] w fun e w' => e = .returned (.pointer none) ∧ w = w' := by
  rcases hb with (⟨k, rfl⟩ | rfl | ⟨p, rfl⟩) | rfl
  · exact stpE w _
  · exact stpX w _
  · exact stpN w _
  · exact stp0 w
theorem Ch.desc {W : World} : ∀ {M : List Lnk} {l : Lnk} {b : Value}, Ch W (l :: M) b → ∀ x ∈ M, x.blk < l.blk
  | [], _, _, _, _, h => by cases h
  | m :: M, l, b, ⟨_, _, h3, h4⟩, x, hx => by
    have h5 : m.blk + 1 ≤ l.blk := h3
    rcases List.mem_cons.1 hx with rfl | hx
    · omega
    · have := Ch.desc h4 x hx; omega
end Go.Proofs.YtageblggakfbdaaDoor
