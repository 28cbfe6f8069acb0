/- errors.As over links: the visitor is asked about each error of the chain, from without, till it says that one suits. Conditions are on the visitor alone; at most 131072 layers. -/
import Derived.Test.YtageblggakfbdaaDoorOopsU
namespace Go.Proofs.YtageblggakfbdaaDoor
open Go.RowKit Go.Extern.Stop Go.Stop Go.Extern

theorem toL (v : Value) (w : World) : (ReflectliteType.typeOf #[.iface 105 v]).run Tryd.prog w = .ok (.iface 110 (.agg #[hd 105])) w := by kernel_rfl
theorem hasAsL (v : Value) (xT : TypeId) (w : World) : (Instr.typeAssert (.iface 105 v) xT 114 true).run Tryd.prog w = .ok (.tuple #[.iface 105 v, .bool true]) w := run_typeAssert_hasB Tryd.underlying114 (by kernel_rfl) v xT w
theorem noUL (v : Value) (xT : TypeId) (w : World) : (Instr.typeAssert (.iface 105 v) xT 98 true).run Tryd.prog w = .ok (.tuple #[.nilIface, .bool false]) w := run_typeAssert_lacksB Tryd.underlying98 (by kernel_rfl) (by kernel_rfl) v xT w
theorem hasUsL (v : Value) (xT : TypeId) (w : World) : (Instr.typeAssert (.iface 105 v) xT 117 true).run Tryd.prog w = .ok (.tuple #[.iface 105 v, .bool true]) w := run_typeAssert_hasB Tryd.underlying117 (by kernel_rfl) v xT w
theorem mAsL (v : Value) (w : World) : (Go.method 284 105 v "As").run Tryd.prog w = .ok (93, v) w := by kernel_rfl
theorem mUsL (v : Value) (w : World) : (Go.method 284 105 v "Unwrap").run Tryd.prog w = .ok (95, v) w := by kernel_rfl

/-- What is so behind the visitor's answer at M. -/
def QM (b : Value) (PM : List Lnk → World → Prop) (Fin Fals : World → Prop) (M : List Lnk) (r : Bool) (w : World) : Prop :=
  match r, M with
  | true, _ => Fin w
  | false, [] => Fals w
  | false, l :: M' => PM M' w ∧ Ch w (l :: M') b
theorem Ch.jk {B : Nat} {W W' : World} (h : Jk B W W') : ∀ {L : List Lnk} {b : Value}, Ch W L b → Ch W' L b
  | [], _, _ => trivial
  | l :: L, b, ⟨h1, h2, h3, h4⟩ => ⟨by
      cases l
      · exact h.same h1 (by decide) (by decide) (by decide)
      · exact h.same h1 (by decide) (by decide) (by decide)
      · exact h.same h1 (by decide) (by decide) (by decide), h2, h3, Ch.jk h h4⟩
/-- Behind the search. -/
def AlPost (Fin Fals : World → Prop) (e : Ending) (w : World) : Prop := ∃ r, e = .returned (.bool r) ∧ (match r with | true => Fin w | false => Fals w)

theorem QM_stable {B : Nat} {b : Value} {PM : List Lnk → World → Prop} {Fin Fals : World → Prop} (hPM : ∀ M, Stable B (PM M)) (hFin : Stable B Fin) (hFals : Stable B Fals) (M : List Lnk) (r : Bool) : Stable B (QM b PM Fin Fals M r) := by
  cases r with
  | true => exact hFin
  | false => cases M with
    | nil => exact hFals
    | cons l M => exact fun W W' h j => ⟨hPM M _ _ h.1 j, Ch.jk j h.2⟩


section
variable {B : Nat} {g : FuncId} {c c2 : Nat} (hf : ∀ args w, (callFunc g args).run Tryd.prog w = .ok (.enter g args) w)
  {b : Value} {PM : List Lnk → World → Prop} {Fin Fals : World → Prop} (hPM : ∀ M, Stable B (PM M)) (hFin : Stable B Fin) (hFals : Stable B Fals)
  (hI : ∀ M W, PM M W → Ch W M b ∧ B ≤ W.heap.size)
  (hv : ∀ M W', PM M W' → Calls Tryd.prog g #[val M b, .pointer (some ⟨c, 0, none⟩), .pointer (some ⟨c2, 0, none⟩)] W' fun e w' => ∃ r, e = .returned (.bool r) ∧ QM b PM Fin Fals M r w' ∧ Fr W' w')
  {tt t : TypeId} (hA : ∀ w : World, (ReflectliteType.relation "AssignableTo" ReflectliteType.assignableTo #[.agg #[hd 105], .iface 110 (.agg #[hd t])]).run Tryd.prog w = .ok (.bool false) w)
include hf hPM hFin hFals hI hv hA

set_option maxRecDepth 10000 in
set_option maxHeartbeats 4000000 in
theorem al_base (hb0 : Base0 b) (W : World) (d : Int) (s n tb a : Nat) (hBs : B ≤ s) (hs : Srch W s (suit g c c2) n) (hn : n + 1 ≤ 268435456) (hp : PM [] W) :
    Calls Tryd.prog 36 #[lk b d s, .iface tt (.pointer (some ⟨tb, 0, none⟩)), .agg #[hd tt, .pointer (some ⟨a, 0, none⟩), .int .u64 150], .iface 110 (.agg #[hd t])] W (AlPost Fin Fals) := by
  have xT := @run_callFunc_extern Tryd.prog 39 _ ReflectliteType.typeOf Tryd.func39 (by kernel_rfl) (by kernel_rfl) (by kernel_rfl) (by kernel_rfl)
  have xA := @run_callFunc_extern Tryd.prog 107 _ (ReflectliteType.relation "AssignableTo" ReflectliteType.assignableTo) Tryd.func107 (by kernel_rfl) (by kernel_rfl) (by kernel_rfl) (by kernel_rfl)
  have mA := m_asg
  have hto := toL
  have hha := hasAsL
  have hnu := noUL
  have hhu := hasUsL
  have hma := mAsL
  have hmu := mUsL
  have hI0 := hI [] W hp
  have j1 := (Jk.refl B W).alloc (.cells #[hd tt, .pointer (some ⟨a, 0, none⟩), .int .u64 150] 81)
  have hs1 : Srch (W.alloc (.cells #[hd tt, .pointer (some ⟨a, 0, none⟩), .int .u64 150] 81)) s (suit g c c2) n := by
    unfold Srch
    rw [Below.heap_alloc _ _ _ hs.lt]; exact hs
  have HQ := QM_stable (b := b) hPM hFin hFals []
  have HL := Lib.hid (fun x => linkAs_any hf _ s b x d n (Nat.le_trans hI0.2 j1.size) hBs hs1 hn (PM []) (hPM []) (hPM [] _ _ hp j1) (QM b PM Fin Fals []) HQ (hv []))
  have HST := Lib.hid (And.intro hFin hFals)
  clear hs hs1 hp hI0 j1 HQ hv hI hPM hFin hFals hf
  go_enter Tryd.func36, Tryd.ntmps36
  go_wp2
  refine wp_loop_rounds 1 ?_
  rw [rounds_succ]
  go_wp2_with fail
  refine (HL.out _).mono ?_
  rintro e W2 ⟨r, rfl, hkv, hq, hs2⟩
  clear hkv HL
  cases r with
  | true =>
    have HF := Lib.hid (show Fin W2 from hq)
    clear hq hs2
    go_wp2_with fail
    go_ret
    exact ⟨true, rfl, HF.out⟩
  | false =>
    have HF := Lib.hid (show Fals W2 from hq)
    have HU := Lib.hid (linkUn_base B W2 s (suit g c c2) (n + 1) b hb0 d hBs hs2 hn)
    clear hq hs2 hb0
    go_wp2_with (go_at_call 95; refine HU.out.mono ?_; rintro e W3 ⟨rfl, j3⟩; have HJ := Lib.hid j3; clear j3)
    refine wp_loop_rounds 1 ?_
    rw [rounds_succ]
    go_wp2
    go_ret
    exact ⟨false, rfl, HST.out.2 _ _ HF.out HJ.out⟩

set_option maxRecDepth 10000 in
set_option maxHeartbeats 4000000 in
theorem al_any (hbb : Base b) (tb a : Nat) (s : Nat) (hBs : B ≤ s) : ∀ (M : List Lnk) (W : World) (d : Int) (n : Nat), 0 ≤ d → d + M.length ≤ 131072 → Srch W s (suit g c c2) n → n + M.length ≤ 262143 → PM M W →
    Calls Tryd.prog 36 #[lk (val M b) d s, .iface tt (.pointer (some ⟨tb, 0, none⟩)), .agg #[hd tt, .pointer (some ⟨a, 0, none⟩), .int .u64 150], .iface 110 (.agg #[hd t])] W (AlPost Fin Fals) := by
  intro M
  induction M with
  | nil =>
    intro W d n h0 h1 hs hn hp
    exact al_base hf hPM hFin hFals hI hv hA (.inl hbb) W d s n tb a hBs hs (by simp at hn; omega) hp
  | cons l M ih =>
    intro W d n h0 h1 hs hn hp
    have hdep : d ≤ 131072 := by simp only [List.length_cons] at h1; omega
    have hn0 : n + 1 ≤ 268435456 := by omega
    have hd0 := h0
    have hn1 : n + 1 + M.length ≤ 262143 := by simp only [List.length_cons] at hn; omega
    have hd1 : 0 ≤ d + 1 := by omega
    have hd2 : d + 1 + M.length ≤ 131072 := by simp only [List.length_cons] at h1; omega
    have xT := @run_callFunc_extern Tryd.prog 39 _ ReflectliteType.typeOf Tryd.func39 (by kernel_rfl) (by kernel_rfl) (by kernel_rfl) (by kernel_rfl)
    have xA := @run_callFunc_extern Tryd.prog 107 _ (ReflectliteType.relation "AssignableTo" ReflectliteType.assignableTo) Tryd.func107 (by kernel_rfl) (by kernel_rfl) (by kernel_rfl) (by kernel_rfl)
    have mA := m_asg
    have hto := toL
    have hha := hasAsL
    have hnu := noUL
    have hhu := hasUsL
    have hma := mAsL
    have hmu := mUsL
    have hnn := nil_iface
    have hI0 := hI (l :: M) W hp
    have j1 := (Jk.refl B W).alloc (.cells #[hd tt, .pointer (some ⟨a, 0, none⟩), .int .u64 150] 81)
    have hv1 := heap_alloc_new W (.cells #[hd tt, .pointer (some ⟨a, 0, none⟩), .int .u64 150] 81)
    have hs1 : Srch (W.alloc (.cells #[hd tt, .pointer (some ⟨a, 0, none⟩), .int .u64 150] 81)) s (suit g c c2) n := by
      unfold Srch
      rw [Below.heap_alloc _ _ _ hs.lt]; exact hs
    have HQ := QM_stable (b := b) hPM hFin hFals (l :: M)
    have HL := Lib.hid (fun x => linkAs_any hf _ s (val (l :: M) b) x d n (Nat.le_trans hI0.2 j1.size) hBs hs1 hn0 (PM (l :: M)) (hPM (l :: M)) (hPM (l :: M) _ _ hp j1) (QM b PM Fin Fals (l :: M)) HQ (hv (l :: M)))
    have HV1 := Lib.hid hv1
    have HP := Lib.hid (hPM M)
    have HII := Lib.hid (hI M)
    have HIH := Lib.hid ih
    clear hs hs1 hp hI0 j1 hv1 HQ hv hI hPM hFin hFals hf ih h1 hn h0
    obtain ⟨u, hu⟩ : ∃ u, u = val (l :: M) b := ⟨_, rfl⟩
    rw [← hu] at HL ⊢
    have HU := Lib.hid hu
    clear hu
    go_enter Tryd.func36, Tryd.ntmps36
    go_wp2
    refine wp_loop_rounds 1 ?_
    rw [rounds_succ]
    go_wp2_with fail
    refine (HL.out _).mono ?_
    rintro e W2 ⟨r, rfl, hkv, hq, hs2⟩
    have hv2 := hkv _ _ _ HV1.out
    have HV2 := Lib.hid hv2
    clear hkv HL hv2
    cases r with
    | true =>
      have HF := Lib.hid (show Fin W2 from hq)
      clear hq hs2
      go_wp2_with fail
      go_ret
      exact ⟨true, rfl, HF.out⟩
    | false =>
      have hq2 : PM M W2 ∧ Ch W2 (l :: M) b := hq
      have HF := Lib.hid hq2.1
      have hun := linkUn_any B W2 s (suit g c c2) (n + 1) l M b hbb d (by omega) (HII.out _ hq2.1).2 hBs hq2.2 hs2 (by omega)
      rw [← HU.out] at hun
      have HUN := Lib.hid hun
      have HS2 := Lib.hid hs2
      clear hq hq2 hs2 hun
      go_wp2_with (go_at_call 95; refine HUN.out.mono ?_; rintro e W3 ⟨gg, cap, rfl, j3, ks3, hx3⟩; have HJ := Lib.hid j3; have HS3 := Lib.hid ks3; clear j3 ks3)
      have hv3 := (KV.jk HJ.out) _ _ _ HV2.out
      have k0 := cell_obj hv3 0 (u := hd tt) rfl
      have k1 := cell_obj hv3 1 (u := .pointer (some ⟨a, 0, none⟩)) rfl
      have k2 := cell_obj hv3 2 (u := .int .u64 150) rfl
      have HIW := Lib.hid (HIH.out W3 (d + 1) (n + 1) hd1 hd2 HS3.out hn1 (HP.out _ _ HF.out HJ.out))
      clear hv3
      refine wp_loop_rounds 2 ?_
      rw [rounds_succ]
      go_wp2_with (go_at_call 36; refine HIW.out.mono ?_; rintro e W4 ⟨r, rfl, hr⟩; have HR := Lib.hid hr; clear hr; cases r)
      · rw [rounds_succ]
        go_wp2
        go_ret
        exact ⟨false, rfl, HR.out⟩
      · go_ret
        exact ⟨true, rfl, HR.out⟩

set_option maxHeartbeats 4000000 in
theorem alAs_any {kd f0 f1 : Int} {ok : Value → Prop} (TG : Tgt tt t kd f0 f1 ok) (w : World) (L : List Lnk) (hb0 : Base b ∨ (b = .nilIface ∧ L = [])) (s n tb : Nat) (hBs : B ≤ s) (hl : L.length ≤ 131072) (hs : Srch w s (suit g c c2) n) (hn : n + L.length ≤ 262143)
    (hg : Glob w) (hp : PM L w) :
    Calls Tryd.prog 14 #[lk (val L b) 0 s, .iface tt (.pointer (some ⟨tb, 0, none⟩))] w (AlPost Fin Fals) := by
  have xV := @run_callFunc_extern Tryd.prog 33 _ (fun args => ReflectliteValue.unpack (args.getD 0 (.tuple #[]))) Tryd.func33 (by kernel_rfl) (by kernel_rfl) (by kernel_rfl) (by kernel_rfl)
  have xY := @run_callFunc_extern Tryd.prog 34 _ (ReflectliteValue.methodAny (ReflectliteValue.valueError "reflectlite.Value.Type" 0) (fun t _ _ _ => ReflectliteType.toType t)) Tryd.func34 (by kernel_rfl) (by kernel_rfl) (by kernel_rfl) (by kernel_rfl)
  have xN := @run_callFunc_extern Tryd.prog 35 _ (ReflectliteValue.method (ReflectliteValue.valueError "reflectlite.Value.IsNil" 0) ReflectliteValue.isNil) Tryd.func35 (by kernel_rfl) (by kernel_rfl) (by kernel_rfl) (by kernel_rfl)
  have xK := @run_callFunc_extern Tryd.prog 64 _ (ReflectliteType.abiMethod fun t => do pure (.int .u8 (← Rtype.kind t))) Tryd.func64 (by kernel_rfl) (by kernel_rfl) (by kernel_rfl) (by kernel_rfl)
  have xE := @run_callFunc_extern Tryd.prog 109 _ (ReflectliteType.method ReflectliteType.elem) Tryd.func109 (by kernel_rfl) (by kernel_rfl) (by kernel_rfl) (by kernel_rfl)
  have xI := @run_callFunc_extern Tryd.prog 110 _ (ReflectliteType.relation "Implements" ReflectliteType.implements_) Tryd.func110 (by kernel_rfl) (by kernel_rfl) (by kernel_rfl) (by kernel_rfl)
  have mK := m_kind
  have mE := m_elem
  have mI := m_impl
  have vo := TG.vo
  have ty := TG.ty
  have k1 := TG.k1
  have k2 := TG.k2
  have kn := TG.kn
  have me := TG.me
  have im := TG.im
  have hlt := World.block_lt_of_cell? w _ hg
  have n8 := TG.nil ⟨w.heap.size, 0, none⟩ ⟨tb, 0, none⟩ ((w.alloc (.cells #[.pointer (some ⟨tb, 0, none⟩)] tt)).alloc (.cells #[hd tt, .pointer (some ⟨w.heap.size, 0, none⟩), .int .u64 150] 81)) (by simp)
  have hg2 : ((w.alloc (.cells #[.pointer (some ⟨tb, 0, none⟩)] tt)).alloc (.cells #[hd tt, .pointer (some ⟨w.heap.size, 0, none⟩), .int .u64 150] 81)).cell? ⟨0, 0, none⟩ = some (.iface 110 (.agg #[hd 25])) := by
    rw [World.cell?_alloc_lt _ _ ⟨0, 0, none⟩ (Nat.lt_of_lt_of_le hlt (by simp)), World.cell?_alloc_lt _ _ ⟨0, 0, none⟩ hlt]; exact hg
  have j := ((Jk.refl B w).alloc (.cells #[.pointer (some ⟨tb, 0, none⟩)] tt)).alloc (.cells #[hd tt, .pointer (some ⟨w.heap.size, 0, none⟩), .int .u64 150] 81)
  have hs2 : Srch ((w.alloc (.cells #[.pointer (some ⟨tb, 0, none⟩)] tt)).alloc (.cells #[hd tt, .pointer (some ⟨w.heap.size, 0, none⟩), .int .u64 150] 81)) s (suit g c c2) n := by
    have hsl := hs.lt
    unfold Srch
    rw [Below.heap_alloc _ _ _ (by simp; omega), Below.heap_alloc _ _ _ hsl]; exact hs
  have HW : Hid (Calls Tryd.prog 36 #[lk (val L b) 0 s, .iface tt (.pointer (some ⟨tb, 0, none⟩)), .agg #[hd tt, .pointer (some ⟨w.heap.size, 0, none⟩), .int .u64 150], .iface 110 (.agg #[hd t])] ((w.alloc (.cells #[.pointer (some ⟨tb, 0, none⟩)] tt)).alloc (.cells #[hd tt, .pointer (some ⟨w.heap.size, 0, none⟩), .int .u64 150] 81)) (AlPost Fin Fals)) := by
    rcases hb0 with hbb | ⟨rfl, rfl⟩
    · exact Lib.hid (al_any hf hPM hFin hFals hI hv hA hbb tb w.heap.size s hBs L _ 0 n (by decide) (by omega) hs2 hn (hPM L _ _ hp j))
    · exact Lib.hid (al_base hf hPM hFin hFals hI hv hA (.inr rfl) _ 0 s n tb w.heap.size hBs hs2 (by simp at hn; omega) (hPM [] _ _ hp j))
  have hnn := nil_iface 105 (.agg #[val L b, .int .i64 0, .pointer (some ⟨s, 0, none⟩)])
  have hn3 : ∀ w : World, (binOp .eql 20 (.iface tt (.pointer (some ⟨tb, 0, none⟩))) .nilIface).run Tryd.prog w = .ok (.bool false) w := fun w => by kernel_rfl
  obtain ⟨u, hu⟩ : ∃ u, u = val L b := ⟨_, rfl⟩
  rw [← hu] at HW hnn ⊢
  clear hu hg hlt TG hs hs2 hp j hb0 hv hI hPM hFin hFals hf hA hn hl
  go_enter Tryd.func14, Tryd.ntmps14
  go_wp2_with (go_at_call 36; refine HW.out.mono ?_; rintro e w' ⟨r, rfl, hr⟩; have HR := Lib.hid hr; clear hr)
  go_ret
  exact ⟨r, rfl, HR.out⟩
end
end Go.Proofs.YtageblggakfbdaaDoor
