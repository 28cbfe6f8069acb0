/- slices.ContainsFunc at a set's has; Remove. Conditions: hashes of 32 bytes; no more than a million hashes asked. -/
import Derived.Test.YtakbdnkodnlkdaaDoorGphW
namespace Go.Proofs.YtakbdnkodnlkdaaDoor
open Go.RowKit
open Go.Maps

/-- Is one of some hashes among others? -/
def anyIn (E R : List Key) : Bool := E.any fun p => decide (p ∈ R)
set_option maxRecDepth 20000 in
set_option maxHeartbeats 2000000 in
attribute [local go_sem ↓] hld_open in
theorem indexf_to (w : World) (v : Value) (E : List Key) (b : Nat) (R : List Key) (hv' : HSeen w v E) (h32 : H32 E) (hl : E.length ≤ 1000000) (hS : SetH w b R) :
    Calls Tryd.prog 50 #[v, .func (.func 35) #[.map (some b)] #[]] w fun e w' => (∃ i : Int, e = .returned (.int .i64 i) ∧ decide (i ≥ 0) = anyIn E R) ∧ Below w.heap.size w w' := by
  obtain ⟨p, cap, rfl⟩ := hv'.shape
  obtain ⟨n, hn⟩ : ∃ n, n = E.length := ⟨_, rfl⟩
  rw [← hn] at hv' hl ⊢
  have HV := Lib.hid hv'
  have H3 := Lib.hid h32
  have HS := Lib.hid hS
  have HN := Lib.hid hn
  have HL := Lib.hid hl
  clear hv' h32 hl hS hn
  go_enter Tryd.func50, Tryd.ntmps50
  go_wp2_with fail
  go_loopw [8] (fun i wr => ∃ k : Nat, k ≤ n ∧ i = .int .i64 k ∧ Hid (anyIn (E.take k) R = false) ∧ Hid (Below w.heap.size w wr)) (fun i _ => n - (intOf i).toNat)
  case atStart => exact ⟨0, Nat.zero_le _, rfl, Lib.hid rfl, Lib.hid (Below.refl _ w)⟩
  case round =>
    obtain ⟨k, hk, rfl, H, B⟩ := hrel
    by_cases hlt : k < n
    · obtain ⟨j1, j2, j3⟩ := next_fit hlt HL.out
      have hkl : k < E.length := by rw [← HN.out]; exact hlt
      obtain ⟨bb, o, c', e1, hrg⟩ := (HV.out.mild (mild_below B.out)).at H3.out hkl
      injection e1 with e1 e2 e3
      subst e1
      obtain ⟨x, hx⟩ : ∃ x, x = E[k] := ⟨_, rfl⟩
      rw [← hx] at hrg
      have hx32 : x.length = 32 := by rw [hx]; exact H3.out.at hkl
      have hld0 := hld_range hx32 hrg
      have HSH := Lib.hid (shas_to wr b R x hx32 (HS.out.kb B.out (by have := HS.out.lt'; omega)))
      have HTK : Hid (anyIn (E.take (k + 1)) R = (anyIn (E.take k) R || decide (x ∈ R))) := Lib.hid (by
        rw [List.take_add_one, List.getElem?_eq_getElem hkl, ← hx]
        unfold anyIn
        rw [List.any_append]
        simp)
      have HME : Hid (x ∈ E) := Lib.hid (by rw [hx]; exact List.getElem_mem hkl)
      clear hx hrg hx32 e2 e3 hkl
      by_cases hr : x ∈ R
      · have HR := Lib.hid hr
        rw [decide_eq_true hr] at HSH
        clear hr
        go_wp2_with fail
        refine HSH.out.mono ?_
        rintro e w2 ⟨rfl, b2⟩
        have B2 := Lib.hid (B.out.trans (b2.mono B.out.size))
        clear b2
        go_wp2
        go_ret
        refine ⟨⟨k, rfl, ?_⟩, B2.out⟩
        have : anyIn E R = true := List.any_eq_true.2 ⟨x, HME.out, decide_eq_true HR.out⟩
        rw [this]
        simp
      · have HR := Lib.hid hr
        rw [decide_eq_false hr] at HSH
        clear hr
        go_wp2_with fail
        refine HSH.out.mono ?_
        rintro e w2 ⟨rfl, b2⟩
        have B2 := Lib.hid (B.out.trans (b2.mono B.out.size))
        clear b2
        go_wp2_with fail
        refine ⟨⟨k + 1, by omega, by rw [j1], Lib.hid (by rw [HTK.out, H.out, decide_eq_false HR.out]; rfl), B2⟩, ?_⟩
        rw [j1]; simp only [intOf]; omega
    · obtain rfl : k = n := by omega
      go_wp2_with fail
      go_ret
      refine ⟨⟨-1, rfl, ?_⟩, B.out⟩
      have h := H.out
      rw [List.take_of_length_le (by rw [HN.out]; exact Nat.le_refl _)] at h
      rw [h]; rfl
set_option maxHeartbeats 2000000 in
theorem containsf_to (w : World) (v : Value) (E : List Key) (b : Nat) (R : List Key) (hv' : HSeen w v E) (h32 : H32 E) (hl : E.length ≤ 1000000) (hS : SetH w b R) :
    Calls Tryd.prog 36 #[v, .func (.func 35) #[.map (some b)] #[]] w fun e w' => e = .returned (.bool (anyIn E R)) ∧ Below w.heap.size w w' := by
  have HI := Lib.hid (indexf_to w v E b R hv' h32 hl hS)
  obtain ⟨p, cap, rfl⟩ := hv'.shape
  obtain ⟨r, hr⟩ : ∃ r, r = anyIn E R := ⟨_, rfl⟩
  rw [← hr] at HI ⊢
  clear hv' h32 hl hS hr
  go_enter Tryd.func36, Tryd.ntmps36
  go_wp2_with fail
  refine HI.out.mono ?_
  rintro e w1 ⟨⟨i, rfl, hi⟩, b1⟩
  have B1 := Lib.hid b1
  have HIE := Lib.hid hi
  clear b1 hi
  go_wp2_with fail
  go_ret
  refine ⟨?_, B1.out⟩
  rw [← HIE.out]
  simp
/-- The first commit that stays and has a parent that goes. -/
def rm1 (E : List Key) : Gr → Rf
  | [] => none
  | c :: G => if c.1 ∈ E then rm1 E G else if anyIn c.2 E then some (10, some c.1) else rm1 E G
/-- The commits that stay. -/
def rmv (E : List Key) (G : Gr) : Gr := G.filter fun c => !decide (c.1 ∈ E)
theorem anyIn_congr {E R S : List Key} (h : ∀ p ∈ E, p ∈ R ↔ p ∈ S) : anyIn E R = anyIn E S := by
  unfold anyIn
  induction E with
  | nil => rfl
  | cons p E ih =>
    rw [List.any_cons, List.any_cons, ih fun q hq => h q (List.mem_cons_of_mem _ hq)]
    congr 1
    exact decide_eq_decide.2 (h p List.mem_cons_self)
theorem rm1_congr {R S : List Key} : ∀ {G : Gr}, (∀ c ∈ G, (c.1 ∈ R ↔ c.1 ∈ S) ∧ ∀ p ∈ c.2, p ∈ R ↔ p ∈ S) → rm1 R G = rm1 S G
  | [], _ => rfl
  | c :: G, h => by
    obtain ⟨h1, h2⟩ := h c List.mem_cons_self
    rw [rm1, rm1, rm1_congr fun d hd => h d (List.mem_cons_of_mem _ hd), anyIn_congr h2]
    by_cases e : c.1 ∈ R
    · rw [if_pos e, if_pos (h1.1 e)]
    · rw [if_neg e, if_neg fun k => e (h1.2 k)]
theorem rmv_congr {R S : List Key} {G : Gr} (h : ∀ c ∈ G, c.1 ∈ R ↔ c.1 ∈ S) : rmv R G = rmv S G := by
  unfold rmv
  refine List.filter_congr fun c hc => ?_
  rw [decide_eq_decide.2 (h c hc)]
theorem GA.drop {w w' : World} {g bm : Nat} {X : Lx} {k : Key} (h : GA w g bm X) (mp' : MpH w' bm (adel k (kvs X))) (ho : Only (fun j => j = bm) w w') : GA w' g bm (adel k X) := by
  have hm := mild_map h.at_.mp ho
  refine ⟨hm.cells h.cell, by rw [show kvs (adel k X) = adel k (kvs X) from amap_del _ _ _]; exact mp', fun x hx => ?_⟩
  have := h.at_.seen x ((adel_mem _ _ _).1 hx).1
  exact ⟨this.1.mild hm, this.2⟩
theorem gr_del (k : Key) (X : Lx) : gr (adel k X) = adel k (gr X) := amap_del _ _ _
theorem rmv_snoc (ss : List Key) (k : Key) (G : Gr) : rmv (ss ++ [k]) G = adel k (rmv ss G) := by
  unfold rmv adel
  rw [List.filter_filter]
  refine List.filter_congr fun c _ => ?_
  by_cases h1 : c.1 ∈ ss <;> by_cases h2 : c.1 = k <;> simp [h1, h2]
theorem rmv_nil (G : Gr) : rmv [] G = G := by unfold rmv; simp
section
variable {ops : Array Oper} {o : Oper} {a : Act} {w : World} {K : Act → World → Prop} {Q : Exit → Act → World → Prop} {X : Prop}
theorem step_del {t k : TypeId} (hgd : o.guard = none) (m x : Operand) (ho : o.op = .call { callee := .builtin .delete, args := #[m, x], argTypes := #[t, k] }) {mv xv : Value} (hm : a.eval m = mv) (hx : a.eval x = xv) {w' : World} (hr : (Builtin.delete_ #[t, k] o.type #[mv, xv]).run Tryd.prog w = .ok (.tuple #[]) w') (h : K (a.put o.dst (.tuple #[])) w') :
    if Region.wanted o (yielded ops a.tmps) = true then Oper.wp Tryd.prog o a w K Q else X := by
  have hw : Region.wanted o (yielded ops a.tmps) = true := by simp [Region.wanted, hgd]
  rw [if_pos hw]
  unfold Oper.wp execOp
  simp [ho, resolve, invoke, builtin, hm, hx, hr, Result.andThen]
  exact h
end
end Go.Proofs.YtakbdnkodnlkdaaDoor
