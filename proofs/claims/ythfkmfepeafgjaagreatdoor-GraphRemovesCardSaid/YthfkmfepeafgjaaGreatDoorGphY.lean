/- slices.ContainsFunc at a set's has; Remove. Conditions: hashes of 32 bytes; no more than a million hashes asked. · Remove. Conditions: hashes of 32 bytes; no more than a million hashes asked; no more than 1000 commits, whose parents are there. -/
import Derived.Test.YthfkmfepeafgjaaGreatDoorGphW
namespace Go.Proofs.YthfkmfepeafgjaaGreatDoor
open Go.RowKit
open Go.Maps

/-- Is one of some hashes among others? -/
def anyIn (E R : List Key) : Bool := E.any fun p => decide (p ∈ R)
set_option maxRecDepth 20000 in
set_option maxHeartbeats 2000000 in
attribute [local go_sem ↓] hld_open in
theorem indexf_to (w : World) (v : Value) (E : List Key) (b : Nat) (R : List Key) (hv' : HSeen w v E) (h32 : H32 E) (hl : E.length ≤ 1000000) (hS : SetH w b R) :
    Calls Tryz.prog 67 #[v, .func (.func 54) #[.map (some b)] #[]] w fun e w' => (∃ i : Int, e = .returned (.int .i64 i) ∧ decide (i ≥ 0) = anyIn E R) ∧ Below w.heap.size w w' := by
  obtain ⟨p, cap, rfl⟩ := hv'.shape
  obtain ⟨n, hn⟩ : ∃ n, n = E.length := ⟨_, rfl⟩
  rw [← hn] at hv' hl ⊢
  have HV := Lib.hid hv'
  have H3 := Lib.hid h32
  have HS := Lib.hid hS
  have HN := Lib.hid hn
  have HL := Lib.hid hl
  clear hv' h32 hl hS hn
  go_enter Tryz.func67, Tryz.ntmps67
  go_wp2_with fail
  go_loopw [8] (fun i wr => ∃ k : Nat, k ≤ n ∧ i = .int .i64 k ∧ Hid (anyIn (E.take k) R = false) ∧ Hid (Below w.heap.size w wr)) (fun i _ => n - (intOf i).toNat)
  case atStart => exact ⟨0, Nat.zero_le _, rfl, Lib.hid rfl, Lib.hid (Below.refl _ w)⟩
  case round =>
    obtain ⟨k, hk, rfl, H, B⟩ := hrel
    by_cases hlt : k < n
    · obtain ⟨j1, j2, j3⟩ := next_fit hlt HL.out
      have hkl : k < E.length := by rw [← HN.out]; exact hlt
      obtain ⟨bb, o, c', e1, hrg⟩ := (HV.out.mild (mild_below B.out)).at H3.out hkl
      injection e1 with e1 e2 e3
      subst e1
      obtain ⟨x, hx⟩ : ∃ x, x = E[k] := ⟨_, rfl⟩
      rw [← hx] at hrg
      have hx32 : x.length = 32 := by rw [hx]; exact H3.out.at hkl
      have hld0 := hld_range hx32 hrg
      have HSH := Lib.hid (shas_to wr b R x hx32 (HS.out.kb B.out (by have := HS.out.lt'; omega)))
      have HTK : Hid (anyIn (E.take (k + 1)) R = (anyIn (E.take k) R || decide (x ∈ R))) := Lib.hid (by
        rw [List.take_add_one, List.getElem?_eq_getElem hkl, ← hx]
        unfold anyIn
        rw [List.any_append]
        simp)
      have HME : Hid (x ∈ E) := Lib.hid (by rw [hx]; exact List.getElem_mem hkl)
      clear hx hrg hx32 e2 e3 hkl
      by_cases hr : x ∈ R
      · have HR := Lib.hid hr
        rw [decide_eq_true hr] at HSH
        clear hr
        go_wp2_with fail
        refine HSH.out.mono ?_
        rintro e w2 ⟨rfl, b2⟩
        have B2 := Lib.hid (B.out.trans (b2.mono B.out.size))
        clear b2
        go_wp2
        go_ret
        refine ⟨⟨k, rfl, ?_⟩, B2.out⟩
        have : anyIn E R = true := List.any_eq_true.2 ⟨x, HME.out, decide_eq_true HR.out⟩
        rw [this]
        simp
      · have HR := Lib.hid hr
        rw [decide_eq_false hr] at HSH
        clear hr
        go_wp2_with fail
        refine HSH.out.mono ?_
        rintro e w2 ⟨rfl, b2⟩
        have B2 := Lib.hid (B.out.trans (b2.mono B.out.size))
        clear b2
        go_wp2_with fail
        refine ⟨⟨k + 1, by omega, by rw [j1], Lib.hid (by rw [HTK.out, H.out, decide_eq_false HR.out]; rfl), B2⟩, ?_⟩
        rw [j1]; simp only [intOf]; omega
    · obtain rfl : k = n := by omega
      go_wp2_with fail
      go_ret
      refine ⟨⟨-1, rfl, ?_⟩, B.out⟩
      have h := H.out
      rw [List.take_of_length_le (by rw [HN.out]; exact Nat.le_refl _)] at h
      rw [h]; rfl
set_option maxHeartbeats 2000000 in
theorem containsf_to (w : World) (v : Value) (E : List Key) (b : Nat) (R : List Key) (hv' : HSeen w v E) (h32 : H32 E) (hl : E.length ≤ 1000000) (hS : SetH w b R) :
    Calls Tryz.prog 55 #[v, .func (.func 54) #[.map (some b)] #[]] w fun e w' => e = .returned (.bool (anyIn E R)) ∧ Below w.heap.size w w' := by
  have HI := Lib.hid (indexf_to w v E b R hv' h32 hl hS)
  obtain ⟨p, cap, rfl⟩ := hv'.shape
  obtain ⟨r, hr⟩ : ∃ r, r = anyIn E R := ⟨_, rfl⟩
  rw [← hr] at HI ⊢
  clear hv' h32 hl hS hr
  go_enter Tryz.func55, Tryz.ntmps55
  go_wp2_with fail
  refine HI.out.mono ?_
  rintro e w1 ⟨⟨i, rfl, hi⟩, b1⟩
  have B1 := Lib.hid b1
  have HIE := Lib.hid hi
  clear b1 hi
  go_wp2_with fail
  go_ret
  refine ⟨?_, B1.out⟩
  rw [← HIE.out]
  simp
/-- The first commit that stays and has a parent that goes. -/
def rm1 (E : List Key) : Gr → Rf
  | [] => none
  | c :: G => if c.1 ∈ E then rm1 E G else if anyIn c.2 E then some (10, some c.1) else rm1 E G
/-- The commits that stay. -/
def rmv (E : List Key) (G : Gr) : Gr := G.filter fun c => !decide (c.1 ∈ E)
theorem anyIn_congr {E R S : List Key} (h : ∀ p ∈ E, p ∈ R ↔ p ∈ S) : anyIn E R = anyIn E S := by
  unfold anyIn
  induction E with
  | nil => rfl
  | cons p E ih =>
    rw [List.any_cons, List.any_cons, ih fun q hq => h q (List.mem_cons_of_mem _ hq)]
    congr 1
    exact decide_eq_decide.2 (h p List.mem_cons_self)
theorem rm1_congr {R S : List Key} : ∀ {G : Gr}, (∀ c ∈ G, (c.1 ∈ R ↔ c.1 ∈ S) ∧ ∀ p ∈ c.2, p ∈ R ↔ p ∈ S) → rm1 R G = rm1 S G
  | [], _ => rfl
  | c :: G, h => by
    obtain ⟨h1, h2⟩ := h c List.mem_cons_self
    rw [rm1, rm1, rm1_congr fun d hd => h d (List.mem_cons_of_mem _ hd), anyIn_congr h2]
    by_cases e : c.1 ∈ R
    · rw [if_pos e, if_pos (h1.1 e)]
    · rw [if_neg e, if_neg fun k => e (h1.2 k)]
theorem rmv_congr {R S : List Key} {G : Gr} (h : ∀ c ∈ G, c.1 ∈ R ↔ c.1 ∈ S) : rmv R G = rmv S G := by
  unfold rmv
  refine List.filter_congr fun c hc => ?_
  rw [decide_eq_decide.2 (h c hc)]
theorem GA.drop {w w' : World} {g bm : Nat} {X : Lx} {k : Key} (h : GA w g bm X) (mp' : MpH w' bm (adel k (kvs X))) (ho : Only (fun j => j = bm) w w') : GA w' g bm (adel k X) := by
  have hm := mild_map h.at_.mp ho
  refine ⟨hm.cells h.cell, by rw [show kvs (adel k X) = adel k (kvs X) from amap_del _ _ _]; exact mp', fun x hx => ?_⟩
  have := h.at_.seen x ((adel_mem _ _ _).1 hx).1
  exact ⟨this.1.mild hm, this.2⟩
theorem gr_del (k : Key) (X : Lx) : gr (adel k X) = adel k (gr X) := amap_del _ _ _
theorem rmv_snoc (ss : List Key) (k : Key) (G : Gr) : rmv (ss ++ [k]) G = adel k (rmv ss G) := by
  unfold rmv adel
  rw [List.filter_filter]
  refine List.filter_congr fun c _ => ?_
  by_cases h1 : c.1 ∈ ss <;> by_cases h2 : c.1 = k <;> simp [h1, h2]
theorem rmv_nil (G : Gr) : rmv [] G = G := by unfold rmv; simp
section
variable {ops : Array Oper} {o : Oper} {a : Act} {w : World} {K : Act → World → Prop} {Q : Exit → Act → World → Prop} {X : Prop}
theorem step_del {t k : TypeId} (hgd : o.guard = none) (m x : Operand) (ho : o.op = .call { callee := .builtin .delete, args := #[m, x], argTypes := #[t, k] }) {mv xv : Value} (hm : a.eval m = mv) (hx : a.eval x = xv) {w' : World} (hr : (Builtin.delete_ #[t, k] o.type #[mv, xv]).run Tryz.prog w = .ok (.tuple #[]) w') (h : K (a.put o.dst (.tuple #[])) w') :
    if Region.wanted o (yielded ops a.tmps) = true then Oper.wp Tryz.prog o a w K Q else X := by
  have hw : Region.wanted o (yielded ops a.tmps) = true := by simp [Region.wanted, hgd]
  rw [if_pos hw]
  unfold Oper.wp execOp
  simp [ho, resolve, invoke, builtin, hm, hx, hr, Result.andThen]
  exact h
end
end Go.Proofs.YthfkmfepeafgjaaGreatDoor
namespace Go.Proofs.YthfkmfepeafgjaaGreatDoor
open Go.RowKit
open Go.Maps

def RemPost (w : World) (g bm : Nat) (X : Lx) (E : List Key) (e : Ending) (w' : World) : Prop :=
  ∃ x, e = .returned x ∧ ErrW w' x (rm1 E (gr X)) ∧ Only (fun k => k = bm) w w' ∧
    ((rm1 E (gr X)).isSome = true ∧ Below w.heap.size w w' ∨ ∃ X', rm1 E (gr X) = none ∧ GA w' g bm X' ∧ gr X' = rmv E (gr X))
theorem rm1_at {R : List Key} {G : Gr} {i : Nat} (hi : i < G.length) : rm1 R (G.drop i) = if G[i].1 ∈ R then rm1 R (G.drop (i + 1)) else if anyIn G[i].2 R then some (10, some G[i].1) else rm1 R (G.drop (i + 1)) := by
  rw [List.drop_eq_getElem_cons hi, rm1]
set_option linter.unusedSimpArgs false in
set_option maxRecDepth 20000 in
set_option maxHeartbeats 8000000 in
attribute [local go_sem ↓] hld_open in
theorem remove_to (w : World) (g bm : Nat) (X : Lx) (v : Value) (E : List Key) (H : GA w g bm X) (W : Wf (gr X)) (hE : HSeen w v E) (h32 : H32 E) (hEl : E.length ≤ 1000000) :
    Calls Tryz.prog 28 #[gp g, v] w (RemPost w g bm X E) := by
  have hXl : X.length ≤ 1000 := by have := W.few; rwa [gr_len] at this
  have HX := Lib.hid (existing_to w g bm X v E H hE h32 hEl (Nat.le_trans hXl (by decide)))
  have HG := Lib.hid H
  have HW := Lib.hid W
  have HXL := Lib.hid hXl
  obtain ⟨p, cap, rfl⟩ := hE.shape
  clear H W hE h32 hEl hXl
  go_enter Tryz.func28, Tryz.ntmps28
  go_wp2_with fail
  refine HX.out.mono ?_
  rintro e w1 ⟨b, R, rfl, hS, hb, hR, hRl, b1⟩
  have B1 := Lib.hid b1
  have HS1 := Lib.hid hS
  have HB := Lib.hid hb
  have HHs := Lib.hid (hashes_to w1 g bm X (Nat.le_trans HXL.out (by decide)) (HG.out.kb b1))
  have HR1 : Hid (rm1 E (gr X) = rm1 R (gr X)) := Lib.hid (rm1_congr fun c hc => by
    have h1 : (aget c.1 (gr X)).isSome = true := mem_keys.1 (List.mem_map.2 ⟨c, hc, rfl⟩)
    refine ⟨by rw [hR]; exact ⟨fun h => ⟨h, h1⟩, fun h => h.1⟩, fun q hq => ?_⟩
    have h2 : q ∈ adj (gr X) c.1 := by unfold adj; rw [aget_of_mem HW.out.asc hc]; exact hq
    rw [hR]
    exact ⟨fun h => ⟨h, HW.out.clo _ _ h2⟩, fun h => h.1⟩)
  have HRV : Hid (rmv E (gr X) = rmv R (gr X)) := Lib.hid (rmv_congr fun c hc => by
    have h1 : (aget c.1 (gr X)).isSome = true := mem_keys.1 (List.mem_map.2 ⟨c, hc, rfl⟩)
    rw [hR]; exact ⟨fun h => ⟨h, h1⟩, fun h => h.1⟩)
  have HRL : Hid (R.length ≤ 1000) := Lib.hid (by rw [gr_len] at hRl; have := HXL.out; omega)
  clear hS hb hR hRl b1
  go_wp2_with fail
  refine HHs.out.mono ?_
  rintro e w2 ⟨v2, rfl, o2, b2⟩
  rw [← gr_keys] at o2
  have B2 : Hid (Below w.heap.size w w2) := Lib.hid (B1.out.trans (b2.mono B1.out.size))
  have HS2 := Lib.hid (HS1.out.kb b2 (by have := HS1.out.lt'; omega))
  have HK2 := Lib.hid (HSeen.own o2)
  obtain ⟨pk, ck, rfl⟩ := (HSeen.own o2).shape
  have HGL : Hid ((gr X).length ≤ 1000) := Lib.hid (by rw [gr_len]; exact HXL.out)
  have hkl : ((gr X).map (·.1)).length = (gr X).length := List.length_map _
  obtain ⟨n, hn⟩ : ∃ n, n = ((gr X).map (·.1)).length := ⟨_, rfl⟩
  rw [← hn] at HK2 ⊢
  have HN : Hid (n = (gr X).length) := Lib.hid (hn.trans hkl)
  have HBS : Hid (b < w2.heap.size) := Lib.hid (by have := HS2.out.lt'; omega)
  clear o2 b2 hn hkl
  go_wp2_with fail
  go_loopw [15] (fun s wr => ∃ i : Nat, s = .int .i64 i ∧ i ≤ n ∧ Hid (rm1 R (gr X) = rm1 R ((gr X).drop i)) ∧ Hid (Below w2.heap.size w2 wr))
    (fun s _ => n - (intOf s).toNat)
  case atStart => exact ⟨0, rfl, Nat.zero_le _, Lib.hid rfl, Lib.hid (Below.refl _ _)⟩
  case round =>
    obtain ⟨i, rfl, hi, T, B⟩ := hrel
    have BW : Hid (Below w.heap.size w wr) := Lib.hid (B2.out.trans (B.out.mono B2.out.size))
    by_cases hlt : i < n
    · obtain ⟨j1, j2, j3⟩ := next_fit hlt (by have := HN.out; have := HGL.out; omega)
      have hiG : i < (gr X).length := by rw [← HN.out]; exact hlt
      have hiK : i < ((gr X).map (·.1)).length := by rw [List.length_map]; exact hiG
      have hH32 : H32 ((gr X).map (·.1)) := fun x hx => by
        obtain ⟨c, hc, rfl⟩ := List.mem_map.1 hx
        exact (HW.out.h32 c hc).1
      have hk2 := HK2.out.mild (mild_below B.out)
      obtain ⟨bb, o, c', e1, hrg⟩ := hk2.at hH32 hiK
      injection e1 with e1 e2 e3
      subst e1
      rw [List.getElem_map] at hrg
      have hmem := List.getElem_mem hiG
      have hrm := rm1_at (R := R) hiG
      rw [← T.out] at hrm
      obtain ⟨⟨x, F⟩, hce⟩ : ∃ c : Cm, c = (gr X)[i] := ⟨_, rfl⟩
      rw [← hce] at hrg hmem hrm
      dsimp only at hrg hrm
      have hx32 : x.length = 32 := (HW.out.h32 _ hmem).1
      have hg := aget_of_mem HW.out.asc hmem
      rw [gr_get] at hg
      obtain ⟨⟨zv, F'⟩, hgX, hF⟩ := Option.map_eq_some_iff.1 hg
      dsimp only at hF
      subst hF
      have hGr := HG.out.kb BW.out
      have hseen := hGr.at_.seen _ (aget_mem hgX)
      dsimp only at hseen
      have hpar := par_of HW.out rfl _ (aget_mem hgX)
      dsimp only at hpar
      have hld0 := hld_range hx32 hrg
      have st := hst_cells x hx32 wr
      have hks : (hv x).size = 32 := by rw [hv_size, hx32]
      have b3 : Below wr.heap.size wr (wr.alloc (.cells (hv x) 40)) := (Below.refl _ _).alloc (Nat.le_refl _) _
      have HV3 := Lib.hid (heap_alloc_last wr (.cells (hv x) 40))
      have HG3 := Lib.hid (hGr.kb b3)
      have B3 : Hid (Below w2.heap.size w2 (wr.alloc (.cells (hv x) 40))) := Lib.hid (B.out.alloc B.out.size _)
      have HRM := Lib.hid hrm
      have H32x := Lib.hid hx32
      have HSN := Lib.hid (hseen.1.mild (mild_below b3))
      have HF32 := Lib.hid hseen.2
      have HPR := Lib.hid hpar
      have HGX := Lib.hid hgX
      obtain ⟨pz, cz, rfl⟩ := hseen.1.shape
      have hbs : b < (wr.alloc (.cells (hv x) 40)).heap.size := by have := HBS.out; have := B.out.size; simp; omega
      have HS3 := Lib.hid (HS2.out.kb B3.out HBS.out)
      have HBS3 := Lib.hid hbs
      have hs3 : (wr.alloc (.cells (hv x) 40)).heap.size = wr.heap.size + 1 := by simp
      clear hrg hmem hrm hce hx32 hg hgX hGr hseen hpar b3 e2 e3 hiG hiK hH32 hk2 hbs
      generalize hw3 : wr.alloc (.cells (hv x) 40) = w3 at *
      have hld3 := hld_row (w := w3.drew) H32x.out HV3.out
      have c0 := HG3.out.c0
      have hlk3 := (HG3.out.at_.mp.drew 1).look Tryz.underlying65 (lzero _) x H32x.out
      rw [kvs_get, HGX.out] at hlk3
      simp only [Option.map_some, Option.getD_some] at hlk3
      rw [show w3.drewN 1 = w3.drew from rfl] at hlk3
      have HLK := Lib.hid (fun W (hW : Below w3.heap.size w3 W) => show (Instr.lookup 65 (.map (some bm)) (.agg (hv x)) false).run Tryz.prog W = .ok (.slice pz F'.length cz) W by
        have := ((HG3.out.kb hW).at_.mp).look Tryz.underlying65 (lzero _) x H32x.out
        rw [kvs_get, HGX.out] at this
        exact this)
      have HLD := Lib.hid (fun W (hW : Below w3.heap.size w3 W) => hld_row (w := W) H32x.out ((hW.block _ (Array.getElem?_eq_some_iff.1 HV3.out).1).trans HV3.out))
      have HSH := Lib.hid (shas_to w3.drew b R x H32x.out (HS3.out.kb (blw_qt w3.heap.size 1 w3) HBS3.out))
      have HCF := Lib.hid (fun W (hW : Below w3.heap.size w3 W) => containsf_to W (.slice pz F'.length cz) F' b R (HSN.out.mild (mild_below hW)) HF32.out (by have := HPR.out.1; omega) (HS3.out.kb hW HBS3.out))
      obtain ⟨mF, hmF⟩ : ∃ mF, mF = F'.length := ⟨_, rfl⟩
      rw [← hmF] at hlk3 HLK HCF
      clear hmF
      by_cases hxR : x ∈ R
      · have HXR := Lib.hid hxR
        rw [decide_eq_true hxR] at HSH
        clear hxR
        go_wp2_with fail
        try simp only [List.append]
        refine wp_region_noPanic ?_
        refine wp_region_held_drew (S := (fun W => (hld ⟨wr.heap.size, 0, none⟩).run Tryz.prog W = .ok (.agg (hv x)) W)) (by kernel_rfl) hld3 (fun hHeld => ?_)
        refine wpAnyH_take (i := 0) (v := ?_) (by simp only [List.getElem?_toArray, List.getElem?_cons_zero]; rfl) (by kernel_rfl) (by kernel_rfl) (by kernel_rfl) (fun _ _ _ h => h) (Or.inl ⟨by rfl, ?_⟩) (by assumption) ?_
        rotate_left
        · intro w hSw
          try dsimp only at hSw
          go_simp
          try with_reducible rfl
        try simp only [Act.put, List.setIfInBounds_toArray, List.set_cons_zero, List.set_cons_succ]
        refine wpAnyH_take (i := 1) (v := ?_) (by simp only [List.getElem?_toArray, List.getElem?_cons_succ, List.getElem?_cons_zero]; rfl) (by kernel_rfl) (by kernel_rfl) (by kernel_rfl) (fun _ _ _ h => h) (Or.inl ⟨by rfl, ?_⟩) (by assumption) ?_
        rotate_left
        · intro w hSw
          try dsimp only at hSw
          go_simp
          try with_reducible rfl
        try simp only [Act.put, List.setIfInBounds_toArray, List.set_cons_zero, List.set_cons_succ]
        refine wpAnyH_ready (rs := [2]) (by kernel_rfl) (by simp) ?_
        refine AllReadyH.cons (by simp only [List.getElem?_toArray, List.getElem?_cons_succ, List.getElem?_cons_zero]; rfl) (fun K hK => ?_) AllReadyH.nil
        go_simp
        refine HSH.out.mono ?_
        rintro e w4 ⟨rfl, b4⟩
        have b4' := blw_drn (m := 1) b4
        have l4 := HLD.out w4 b4'
        have B4 : Hid (Below w2.heap.size w2 w4) := Lib.hid (B3.out.trans (b4'.mono B3.out.size))
        clear b4 b4'
        go_wp2_with fail
        refine hK.out _ _ l4 (fun hHeld => ?_)
        clear hK K
        try simp only [Act.put, List.setIfInBounds_toArray, List.set_cons_zero, List.set_cons_succ]
        refine wpAnyH_take (i := 3) (v := ?_) (by simp only [List.getElem?_toArray, List.getElem?_cons_succ, List.getElem?_cons_zero]; rfl) (by kernel_rfl) (by kernel_rfl) (by kernel_rfl) (fun _ _ _ h => h) (Or.inl ⟨by rfl, ?_⟩) (by assumption) ?_
        rotate_left
        · intro w hSw
          try dsimp only at hSw
          go_simp
          try with_reducible rfl
        try simp only [Act.put, List.setIfInBounds_toArray, List.set_cons_zero, List.set_cons_succ]
        refine wpAnyH_take (i := 4) (v := ?_) (by simp only [List.getElem?_toArray, List.getElem?_cons_succ, List.getElem?_cons_zero]; rfl) (by kernel_rfl) (by kernel_rfl) (by kernel_rfl) (fun _ _ _ h => h) (Or.inl ⟨by rfl, ?_⟩) (by assumption) ?_
        rotate_left
        · intro w hSw
          try dsimp only at hSw
          go_simp
          try with_reducible rfl
        try simp only [Act.put, List.setIfInBounds_toArray, List.set_cons_zero, List.set_cons_succ]
        refine wpAnyH_take (i := 5) (v := undef) (by simp only [List.getElem?_toArray, List.getElem?_cons_succ, List.getElem?_cons_zero]; rfl) (by kernel_rfl) (by kernel_rfl) (by kernel_rfl) (fun _ _ _ h => h) (Or.inr ⟨by rfl, rfl⟩) (by assumption) ?_
        try simp only [Act.put, List.setIfInBounds_toArray, List.set_cons_zero, List.set_cons_succ]
        refine wpAnyH_take (i := 6) (v := undef) (by simp only [List.getElem?_toArray, List.getElem?_cons_succ, List.getElem?_cons_zero]; rfl) (by kernel_rfl) (by kernel_rfl) (by kernel_rfl) (fun _ _ _ h => h) (Or.inr ⟨by rfl, rfl⟩) (by assumption) ?_
        try simp only [Act.put, List.setIfInBounds_toArray, List.set_cons_zero, List.set_cons_succ]
        refine wpAnyH_take (i := 7) (v := undef) (by simp only [List.getElem?_toArray, List.getElem?_cons_succ, List.getElem?_cons_zero]; rfl) (by kernel_rfl) (by kernel_rfl) (by kernel_rfl) (fun _ _ _ h => h) (Or.inr ⟨by rfl, rfl⟩) (by assumption) ?_
        try simp only [Act.put, List.setIfInBounds_toArray, List.set_cons_zero, List.set_cons_succ]
        refine wpAnyH_take (i := 8) (v := undef) (by simp only [List.getElem?_toArray, List.getElem?_cons_succ, List.getElem?_cons_zero]; rfl) (by kernel_rfl) (by kernel_rfl) (by kernel_rfl) (fun _ _ _ h => h) (Or.inr ⟨by rfl, rfl⟩) (by assumption) ?_
        try simp only [Act.put, List.setIfInBounds_toArray, List.set_cons_zero, List.set_cons_succ]
        refine wpAnyH_take (i := 9) (v := undef) (by simp only [List.getElem?_toArray, List.getElem?_cons_succ, List.getElem?_cons_zero]; rfl) (by kernel_rfl) (by kernel_rfl) (by kernel_rfl) (fun _ _ _ h => h) (Or.inr ⟨by rfl, rfl⟩) (by assumption) ?_
        try simp only [Act.put, List.setIfInBounds_toArray, List.set_cons_zero, List.set_cons_succ]
        refine wpAnyH_take (i := 10) (v := undef) (by simp only [List.getElem?_toArray, List.getElem?_cons_succ, List.getElem?_cons_zero]; rfl) (by kernel_rfl) (by kernel_rfl) (by kernel_rfl) (fun _ _ _ h => h) (Or.inr ⟨by rfl, rfl⟩) (by assumption) ?_
        try simp only [Act.put, List.setIfInBounds_toArray, List.set_cons_zero, List.set_cons_succ]
        refine wpAnyH_take (i := 11) (v := undef) (by simp only [List.getElem?_toArray, List.getElem?_cons_succ, List.getElem?_cons_zero]; rfl) (by kernel_rfl) (by kernel_rfl) (by kernel_rfl) (fun _ _ _ h => h) (Or.inr ⟨by rfl, rfl⟩) (by assumption) ?_
        try simp only [Act.put, List.setIfInBounds_toArray, List.set_cons_zero, List.set_cons_succ]
        refine wpAnyH_take (i := 12) (v := undef) (by simp only [List.getElem?_toArray, List.getElem?_cons_succ, List.getElem?_cons_zero]; rfl) (by kernel_rfl) (by kernel_rfl) (by kernel_rfl) (fun _ _ _ h => h) (Or.inr ⟨by rfl, rfl⟩) (by assumption) ?_
        try simp only [Act.put, List.setIfInBounds_toArray, List.set_cons_zero, List.set_cons_succ]
        refine wpAnyH_take (i := 13) (v := undef) (by simp only [List.getElem?_toArray, List.getElem?_cons_succ, List.getElem?_cons_zero]; rfl) (by kernel_rfl) (by kernel_rfl) (by kernel_rfl) (fun _ _ _ h => h) (Or.inr ⟨by rfl, rfl⟩) (by assumption) ?_
        try simp only [Act.put, List.setIfInBounds_toArray, List.set_cons_zero, List.set_cons_succ]
        refine wpAnyH_take (i := 14) (v := ?_) (by simp only [List.getElem?_toArray, List.getElem?_cons_succ, List.getElem?_cons_zero]; rfl) (by kernel_rfl) (by kernel_rfl) (by kernel_rfl) (fun _ _ _ h => h) (Or.inl ⟨by rfl, ?_⟩) (by assumption) ?_
        rotate_left
        · intro w hSw
          try dsimp only at hSw
          go_simp
          try with_reducible rfl
        try simp only [Act.put, List.setIfInBounds_toArray, List.set_cons_zero, List.set_cons_succ]
        refine wpAnyH_done (by kernel_rfl) ?_ _
        refine NoPanic.normal ?_
        go_wp2_with fail
        refine ⟨⟨i + 1, by rw [j1], hlt, Lib.hid (by rw [HRM.out, if_pos HXR.out]), B4⟩, ?_⟩
        rw [j1]; simp only [intOf]; omega
      · have HXR := Lib.hid hxR
        rw [decide_eq_false hxR] at HSH
        clear hxR
        have HCG : Hid (rm1 R (gr X) = if anyIn F' R then some (10, some x) else rm1 R ((gr X).drop (i + 1))) := Lib.hid (by rw [HRM.out, if_neg HXR.out])
        go_wp2_with fail
        try simp only [List.append]
        refine wp_region_noPanic ?_
        refine wp_region_held_drew (S := (fun W => (hld ⟨wr.heap.size, 0, none⟩).run Tryz.prog W = .ok (.agg (hv x)) W ∧ W.cell? ⟨g, 0, none⟩ = some (.map (some bm)) ∧ (Instr.lookup 65 (.map (some bm)) (.agg (hv x)) false).run Tryz.prog W = .ok (.slice pz mF cz) W)) (by kernel_rfl) ⟨hld3, c0, hlk3⟩ (fun hHeld => ?_)
        refine wpAnyH_take (i := 0) (v := ?_) (by simp only [List.getElem?_toArray, List.getElem?_cons_zero]; rfl) (by kernel_rfl) (by kernel_rfl) (by kernel_rfl) (fun _ _ _ h => h) (Or.inl ⟨by rfl, ?_⟩) (by assumption) ?_
        rotate_left
        · intro w hSw
          try dsimp only at hSw
          go_simp
          try with_reducible rfl
        try simp only [Act.put, List.setIfInBounds_toArray, List.set_cons_zero, List.set_cons_succ]
        refine wpAnyH_take (i := 1) (v := ?_) (by simp only [List.getElem?_toArray, List.getElem?_cons_succ, List.getElem?_cons_zero]; rfl) (by kernel_rfl) (by kernel_rfl) (by kernel_rfl) (fun _ _ _ h => h) (Or.inl ⟨by rfl, ?_⟩) (by assumption) ?_
        rotate_left
        · intro w hSw
          try dsimp only at hSw
          go_simp
          try with_reducible rfl
        try simp only [Act.put, List.setIfInBounds_toArray, List.set_cons_zero, List.set_cons_succ]
        refine wpAnyH_ready (rs := [2]) (by kernel_rfl) (by simp) ?_
        refine AllReadyH.cons (by simp only [List.getElem?_toArray, List.getElem?_cons_succ, List.getElem?_cons_zero]; rfl) (fun K hK => ?_) AllReadyH.nil
        go_simp
        refine HSH.out.mono ?_
        rintro e w4 ⟨rfl, b4⟩
        have b4' := blw_drn (m := 1) b4
        have l4 := HLD.out w4 b4'
        have k4 := HLK.out w4 b4'
        have c4 := (HG3.out.kb b4').c0
        have HB4 := Lib.hid b4'
        clear b4 b4'
        go_wp2_with fail
        refine hK.out _ _ ⟨l4, c4, k4⟩ (fun hHeld => ?_)
        clear hK K
        try simp only [Act.put, List.setIfInBounds_toArray, List.set_cons_zero, List.set_cons_succ]
        refine wpAnyH_take (i := 3) (v := ?_) (by simp only [List.getElem?_toArray, List.getElem?_cons_succ, List.getElem?_cons_zero]; rfl) (by kernel_rfl) (by kernel_rfl) (by kernel_rfl) (fun _ _ _ h => h) (Or.inl ⟨by rfl, ?_⟩) (by assumption) ?_
        rotate_left
        · intro w hSw
          try dsimp only at hSw
          go_simp
          try with_reducible rfl
        try simp only [Act.put, List.setIfInBounds_toArray, List.set_cons_zero, List.set_cons_succ]
        refine wpAnyH_take (i := 4) (v := ?_) (by simp only [List.getElem?_toArray, List.getElem?_cons_succ, List.getElem?_cons_zero]; rfl) (by kernel_rfl) (by kernel_rfl) (by kernel_rfl) (fun _ _ _ h => h) (Or.inl ⟨by rfl, ?_⟩) (by assumption) ?_
        rotate_left
        · intro w hSw
          try dsimp only at hSw
          go_simp
          try with_reducible rfl
        try simp only [Act.put, List.setIfInBounds_toArray, List.set_cons_zero, List.set_cons_succ]
        refine wpAnyH_take (i := 5) (v := ?_) (by simp only [List.getElem?_toArray, List.getElem?_cons_succ, List.getElem?_cons_zero]; rfl) (by kernel_rfl) (by kernel_rfl) (by kernel_rfl) (fun _ _ _ h => h) (Or.inl ⟨by rfl, ?_⟩) (by assumption) ?_
        rotate_left
        · intro w hSw
          try dsimp only at hSw
          go_simp
          try with_reducible rfl
        try simp only [Act.put, List.setIfInBounds_toArray, List.set_cons_zero, List.set_cons_succ]
        refine wpAnyH_take (i := 6) (v := ?_) (by simp only [List.getElem?_toArray, List.getElem?_cons_succ, List.getElem?_cons_zero]; rfl) (by kernel_rfl) (by kernel_rfl) (by kernel_rfl) (fun _ _ _ h => h) (Or.inl ⟨by rfl, ?_⟩) (by assumption) ?_
        rotate_left
        · intro w hSw
          try dsimp only at hSw
          go_simp
          try with_reducible rfl
        try simp only [Act.put, List.setIfInBounds_toArray, List.set_cons_zero, List.set_cons_succ]
        refine wpAnyH_take (i := 7) (v := ?_) (by simp only [List.getElem?_toArray, List.getElem?_cons_succ, List.getElem?_cons_zero]; rfl) (by kernel_rfl) (by kernel_rfl) (by kernel_rfl) (fun _ _ _ h => h) (Or.inl ⟨by rfl, ?_⟩) (by assumption) ?_
        rotate_left
        · intro w hSw
          try dsimp only at hSw
          go_simp
          try with_reducible rfl
        try simp only [Act.put, List.setIfInBounds_toArray, List.set_cons_zero, List.set_cons_succ]
        refine wpAnyH_take (i := 8) (v := ?_) (by simp only [List.getElem?_toArray, List.getElem?_cons_succ, List.getElem?_cons_zero]; rfl) (by kernel_rfl) (by kernel_rfl) (by kernel_rfl) (fun _ _ _ h => h) (Or.inl ⟨by rfl, ?_⟩) (by assumption) ?_
        rotate_left
        · intro w hSw
          try dsimp only at hSw
          go_simp
          try with_reducible rfl
        try simp only [Act.put, List.setIfInBounds_toArray, List.set_cons_zero, List.set_cons_succ]
        refine wpAnyH_take (i := 9) (v := ?_) (by simp only [List.getElem?_toArray, List.getElem?_cons_succ, List.getElem?_cons_zero]; rfl) (by kernel_rfl) (by kernel_rfl) (by kernel_rfl) (fun _ _ _ h => h) (Or.inl ⟨by rfl, ?_⟩) (by assumption) ?_
        rotate_left
        · intro w hSw
          try dsimp only at hSw
          go_simp
          try with_reducible rfl
        try simp only [Act.put, List.setIfInBounds_toArray, List.set_cons_zero, List.set_cons_succ]
        refine wpAnyH_take (i := 10) (v := ?_) (by simp only [List.getElem?_toArray, List.getElem?_cons_succ, List.getElem?_cons_zero]; rfl) (by kernel_rfl) (by kernel_rfl) (by kernel_rfl) (fun _ _ _ h => h) (Or.inl ⟨by rfl, ?_⟩) (by assumption) ?_
        rotate_left
        · intro w hSw
          try dsimp only at hSw
          go_simp
          try with_reducible rfl
        try simp only [Act.put, List.setIfInBounds_toArray, List.set_cons_zero, List.set_cons_succ]
        refine wpAnyH_take (i := 11) (v := ?_) (by simp only [List.getElem?_toArray, List.getElem?_cons_succ, List.getElem?_cons_zero]; rfl) (by kernel_rfl) (by kernel_rfl) (by kernel_rfl) (fun _ _ _ h => h) (Or.inl ⟨by rfl, ?_⟩) (by assumption) ?_
        rotate_left
        · intro w hSw
          try dsimp only at hSw
          go_simp
          try with_reducible rfl
        try simp only [Act.put, List.setIfInBounds_toArray, List.set_cons_zero, List.set_cons_succ]
        refine wpAnyH_take (i := 12) (v := ?_) (by simp only [List.getElem?_toArray, List.getElem?_cons_succ, List.getElem?_cons_zero]; rfl) (by kernel_rfl) (by kernel_rfl) (by kernel_rfl) (fun _ _ _ h => h) (Or.inl ⟨by rfl, ?_⟩) (by assumption) ?_
        rotate_left
        · intro w hSw
          try dsimp only at hSw
          go_simp
          try with_reducible rfl
        try simp only [Act.put, List.setIfInBounds_toArray, List.set_cons_zero, List.set_cons_succ]
        cases han : anyIn F' R with
        | true =>
          have HAN := Lib.hid han
          have hcf := HCF.out w4 HB4.out
          rw [han] at hcf
          have HC2 := Lib.hid hcf
          clear han hcf
          refine wpAnyH_ready (rs := [13]) (by kernel_rfl) (by simp) ?_
          refine AllReadyH.cons (by simp only [List.getElem?_toArray, List.getElem?_cons_succ, List.getElem?_cons_zero]; rfl) (fun K hK => ?_) AllReadyH.nil
          go_simp
          refine HC2.out.mono ?_
          rintro e w5 ⟨rfl, b5⟩
          have b5' := HB4.out.trans (b5.mono HB4.out.size)
          have l5 := HLD.out w5 b5'
          have k5 := HLK.out w5 b5'
          have c5 := (HG3.out.kb b5').c0
          have B5 : Hid (Below w2.heap.size w2 w5) := Lib.hid (B3.out.trans (b5'.mono B3.out.size))
          have HOF := Lib.hid (of_kind w5 x H32x.out 10)
          clear b5 b5'
          go_wp2_with fail
          refine hK.out _ _ ⟨l5, c5, k5⟩ (fun hHeld => ?_)
          clear hK K
          try simp only [Act.put, List.setIfInBounds_toArray, List.set_cons_zero, List.set_cons_succ]
          refine wpAnyH_take (i := 14) (v := ?_) (by simp only [List.getElem?_toArray, List.getElem?_cons_succ, List.getElem?_cons_zero]; rfl) (by kernel_rfl) (by kernel_rfl) (by kernel_rfl) (fun _ _ _ h => h) (Or.inl ⟨by rfl, ?_⟩) (by assumption) ?_
          rotate_left
          · intro w hSw
            try dsimp only at hSw
            go_simp
            try with_reducible rfl
          try simp only [Act.put, List.setIfInBounds_toArray, List.set_cons_zero, List.set_cons_succ]
          refine wpAnyH_done (by kernel_rfl) ?_ _
          refine NoPanic.normal ?_
          go_wp2_with fail
          refine HOF.out.mono ?_
          rintro e w6 ⟨z, rfl, ⟨pz', rfl⟩, hz', b6⟩
          go_wp2
          go_ret
          have hB6 : Below w.heap.size w w6 := (B2.out.trans (B5.out.mono B2.out.size)).trans (b6.mono (Nat.le_trans B2.out.size B5.out.size))
          have hr1 : rm1 E (gr X) = some (10, some x) := by rw [HR1.out, HCG.out, if_pos HAN.out]
          exact ⟨_, rfl, by rw [hr1]; exact hz', Only.of_below hB6, .inl ⟨by rw [hr1]; rfl, hB6⟩⟩
        | false =>
          have HAN := Lib.hid han
          have hcf := HCF.out w4 HB4.out
          rw [han] at hcf
          have HC2 := Lib.hid hcf
          clear han hcf
          refine wpAnyH_ready (rs := [13]) (by kernel_rfl) (by simp) ?_
          refine AllReadyH.cons (by simp only [List.getElem?_toArray, List.getElem?_cons_succ, List.getElem?_cons_zero]; rfl) (fun K hK => ?_) AllReadyH.nil
          go_simp
          refine HC2.out.mono ?_
          rintro e w5 ⟨rfl, b5⟩
          have b5' := HB4.out.trans (b5.mono HB4.out.size)
          have l5 := HLD.out w5 b5'
          have k5 := HLK.out w5 b5'
          have c5 := (HG3.out.kb b5').c0
          have B5 : Hid (Below w2.heap.size w2 w5) := Lib.hid (B3.out.trans (b5'.mono B3.out.size))
          clear b5 b5'
          go_wp2_with fail
          refine hK.out _ _ ⟨l5, c5, k5⟩ (fun hHeld => ?_)
          clear hK K
          try simp only [Act.put, List.setIfInBounds_toArray, List.set_cons_zero, List.set_cons_succ]
          refine wpAnyH_take (i := 14) (v := ?_) (by simp only [List.getElem?_toArray, List.getElem?_cons_succ, List.getElem?_cons_zero]; rfl) (by kernel_rfl) (by kernel_rfl) (by kernel_rfl) (fun _ _ _ h => h) (Or.inl ⟨by rfl, ?_⟩) (by assumption) ?_
          rotate_left
          · intro w hSw
            try dsimp only at hSw
            go_simp
            try with_reducible rfl
          try simp only [Act.put, List.setIfInBounds_toArray, List.set_cons_zero, List.set_cons_succ]
          refine wpAnyH_done (by kernel_rfl) ?_ _
          refine NoPanic.normal ?_
          go_wp2_with fail
          refine ⟨⟨i + 1, by rw [j1], hlt, Lib.hid (by rw [HCG.out, HAN.out]; rfl), B5⟩, ?_⟩
          rw [j1]; simp only [intOf]; omega
    · obtain rfl : i = n := by omega
      have hN : Hid (rm1 E (gr X) = none) := Lib.hid (by rw [HR1.out, T.out, List.drop_eq_nil_of_le (by rw [HN.out]; exact Nat.le_refl _)]; rfl)
      obtain ⟨M, HM, hu, hRM⟩ := (HS2.out.kb B.out HBS.out).ex
      have ho := HM.own
      have HMA := Lib.hid HM
      have HRM := Lib.hid hRM
      have HGr := Lib.hid (HG.out.kb BW.out)
      have hbm : bm < w.heap.size := HG.out.at_.mp.lt
      have HBM := Lib.hid hbm
      have HBR : Hid (b ≠ bm) := Lib.hid (by have := HB.out; omega)
      have HRW : Hid (wr.heap.size ≠ bm) := Lib.hid (by have := BW.out.size; omega)
      have OW : Hid (Only (fun k => k = bm) w wr) := Lib.hid (Only.of_below BW.out)
      clear HM hu hRM hbm hi
      generalize wr = q0 at *
      go_wp2_with (at_range; refine wpList_range_own _ rfl _ 92 rfl _ _ hkeyed Tryz.underlying92 rdv b M.length _ rfl ho ?_; intro wa hrg0 hg0 hs0)
      have HRG0 := Lib.hid hrg0
      have hoa : Only (fun _ => False) q0 wa := (Only.refl _ q0).grown hg0 (fun _ _ e => by cases e)
      have ba : Below q0.heap.size q0 wa := Only.below hoa (Nat.le_refl _) (fun _ h => h.elim)
      have HGa := Lib.hid (HGr.out.kb ba)
      have OWa : Hid (Only (fun k => k = bm) w wa) := Lib.hid (OW.out.trans (Only.of_below (S := fun k => k = bm) ba) (fun _ h => h) (fun _ _ h => h))
      clear hrg0 hg0 hs0 ho hoa ba
      go_frame
      go_loopw [8] (fun _ wq => ∃ (left : Lit → Bool) (cnt : Nat) (ss : List Key) (Z : Lx), Hid (wq.ranges Tryz.prog 40 rdv b q0.heap.size M.length (mapV M) left cnt) ∧ Hid (Col M left ss) ∧ Hid (GA wq g bm Z) ∧ Hid (gr Z = rmv ss (gr X)) ∧ Hid (Only (fun k => k = bm) w wq))
        (fun _ wq => wq.rangeLeft b q0.heap.size)
      case atStart => exact ⟨_, _, [], X, HRG0, Lib.hid (Col.start _), HGa, Lib.hid (rmv_nil _).symm, OWa⟩
      case round =>
        obtain ⟨left, cnt, ss, Z, RG, CL, GZ, GE, O⟩ := hrel
        clear HRG0 HGa OWa OW
        go_wp2_with (at_next; refine wpList_next_ranges _ rfl _ rfl 40 hkeyed rdv id id (fun key _ _ => ⟨key, rfl⟩) (fun v _ _ => ⟨v, rfl⟩) b _ M.length _ _ _ rfl RG.out ?_ ?_)
        · intro hc0 hl0
          go_wp2
          go_ret
          have hp := CL.out.done HMA.out.asc hl0
          exact ⟨_, rfl, by rw [hN.out]; rfl, O.out, .inr ⟨Z, hN.out, GZ.out, by
            rw [GE.out, HRV.out]
            exact rmv_congr fun c _ => by rw [HRM.out]; exact hp.mem_iff⟩⟩
        · intro x c kl yd yp wn cnt2 hkey hlk hv' hat hrg2 hlt hg2 hs2 hen
          obtain ⟨k, hkM, rfl⟩ := ranges_key RG.out hlk
          obtain ⟨k32, rfl⟩ := came_key HMA.out.h32 hkM hkey
          have hon : Only (fun j => j = q0.heap.size) wr wn := (Only.refl _ wr).grown hg2 (fun j _ e => by cases e; rfl)
          have hitw : ∀ cs t f, wr.heap[q0.heap.size]? ≠ some (.cells cs t f) := fun cs t f e => by
            obtain ⟨es, clock, since, seen, c0, _, _, _, _, hr, _⟩ := RG.out
            rw [hr] at e; cases e
          have hmn : Mild wr wn := ⟨hon.mono fun j _ e cs t f hj => hitw cs t f (by have e' : j = q0.heap.size := e; rw [← e']; exact hj)⟩
          have GZn := Lib.hid (GZ.out.only hon hmn (fun e => HRW.out e.symm))
          have hBq : w.heap.size ≤ q0.heap.size := BW.out.size
          have On : Hid (Only (fun j => j = bm) w wn) := Lib.hid (⟨hon.os.trans O.out.os, hon.tape.trans O.out.tape, hon.output.trans O.out.output, Nat.le_trans O.out.size hon.size, fun j hj hjb => (hon.block j (Nat.lt_of_lt_of_le hj O.out.size) (fun e => by have e' : j = q0.heap.size := e; omega)).trans (O.out.block j hj hjb)⟩)
          have st := hst_cells k k32 wn
          have hks : (hv k).size = 32 := by rw [hv_size, k32]
          have b3 : Below wn.heap.size wn (wn.alloc (.cells (hv k) 40)) := (Below.refl _ _).alloc (Nat.le_refl _) _
          have HV3 := Lib.hid (heap_alloc_last wn (.cells (hv k) 40))
          have GZ3 := Lib.hid (GZn.out.kb b3)
          have RG3 := Lib.hid (hrg2.alloc (.cells (hv k) 40))
          have O3 : Hid (Only (fun j => j = bm) w (wn.alloc (.cells (hv k) 40))) := Lib.hid (On.out.alloc _)
          have CL2 := Lib.hid (CL.out.step hlk)
          have HRL2 := Lib.hid RG.out.left_eq
          have HLT := Lib.hid hlt
          have K32 := Lib.hid k32
          clear hkM hkey hlk hv' hat hrg2 hlt hg2 hs2 hon hitw hmn b3 k32 RG CL GZ O hBq
          generalize hw3 : wn.alloc (.cells (hv k) 40) = w3 at *
          have hld3 := hld_row (w := w3.drew) K32.out HV3.out
          have c0 := GZ3.out.c0
          obtain ⟨w6, hdel, mp6, o6⟩ := (GZ3.out.at_.mp.drew 1).drop Tryz.underlying65 k K32.out 0
          have o6' : Only (fun j => j = bm) w3 w6 := ⟨o6.os, o6.tape, o6.output, o6.size, o6.block⟩
          have GZ6 := Lib.hid (GZ3.out.drop mp6 o6')
          have O6 : Hid (Only (fun j => j = bm) w w6) := Lib.hid (O3.out.trans o6' (fun _ h => h) (fun _ _ h => h))
          have RG6 := Lib.hid (ranges_keep RG3.out (o6'.block b RG3.out.owns.lt HBR.out) (o6'.block _ RG3.out.lt HRW.out))
          have l6 := hld_row (w := w6) K32.out ((o6'.block _ (Array.getElem?_eq_some_iff.1 HV3.out).1 (fun e => by
            obtain ⟨es, c, hb⟩ := GZ3.out.at_.mp.ismap
            have e' : wn.heap.size = bm := e
            rw [← e'] at hb
            rw [HV3.out] at hb; cases hb)).trans HV3.out)
          have c6 := GZ6.out.c0
          have HDL := Lib.hid hdel
          clear mp6 o6 o6' hdel
          go_wp2_with fail
          try simp only [List.append]
          refine wp_region_noPanic ?_
          refine wp_region_held_drew (S := (fun W => W.cell? ⟨g, 0, none⟩ = some (.map (some bm)) ∧ (hld ⟨wn.heap.size, 0, none⟩).run Tryz.prog W = .ok (.agg (hv k)) W)) (by kernel_rfl) ⟨c0, hld3⟩ (fun hHeld => ?_)
          refine wpAnyH_take (i := 0) (v := ?_) (by simp only [List.getElem?_toArray, List.getElem?_cons_zero]; rfl) (by kernel_rfl) (by kernel_rfl) (by kernel_rfl) (fun _ _ _ h => h) (Or.inl ⟨by rfl, ?_⟩) (by assumption) ?_
          rotate_left
          · intro w hSw
            try dsimp only at hSw
            go_simp
            try with_reducible rfl
          try simp only [Act.put, List.setIfInBounds_toArray, List.set_cons_zero, List.set_cons_succ]
          refine wpAnyH_take (i := 1) (v := ?_) (by simp only [List.getElem?_toArray, List.getElem?_cons_succ, List.getElem?_cons_zero]; rfl) (by kernel_rfl) (by kernel_rfl) (by kernel_rfl) (fun _ _ _ h => h) (Or.inl ⟨by rfl, ?_⟩) (by assumption) ?_
          rotate_left
          · intro w hSw
            try dsimp only at hSw
            go_simp
            try with_reducible rfl
          try simp only [Act.put, List.setIfInBounds_toArray, List.set_cons_zero, List.set_cons_succ]
          refine wpAnyH_take (i := 2) (v := ?_) (by simp only [List.getElem?_toArray, List.getElem?_cons_succ, List.getElem?_cons_zero]; rfl) (by kernel_rfl) (by kernel_rfl) (by kernel_rfl) (fun _ _ _ h => h) (Or.inl ⟨by rfl, ?_⟩) (by assumption) ?_
          rotate_left
          · intro w hSw
            try dsimp only at hSw
            go_simp
            try with_reducible rfl
          try simp only [Act.put, List.setIfInBounds_toArray, List.set_cons_zero, List.set_cons_succ]
          refine wpAnyH_take (i := 3) (v := ?_) (by simp only [List.getElem?_toArray, List.getElem?_cons_succ, List.getElem?_cons_zero]; rfl) (by kernel_rfl) (by kernel_rfl) (by kernel_rfl) (fun _ _ _ h => h) (Or.inl ⟨by rfl, ?_⟩) (by assumption) ?_
          rotate_left
          · intro w hSw
            try dsimp only at hSw
            go_simp
            try with_reducible rfl
          try simp only [Act.put, List.setIfInBounds_toArray, List.set_cons_zero, List.set_cons_succ]
          refine wpAnyH_take (i := 4) (v := ?_) (by simp only [List.getElem?_toArray, List.getElem?_cons_succ, List.getElem?_cons_zero]; rfl) (by kernel_rfl) (by kernel_rfl) (by kernel_rfl) (fun _ _ _ h => h) (Or.inl ⟨by rfl, ?_⟩) (by assumption) ?_
          rotate_left
          · intro w hSw
            try dsimp only at hSw
            go_simp
            try with_reducible rfl
          try simp only [Act.put, List.setIfInBounds_toArray, List.set_cons_zero, List.set_cons_succ]
          refine wpAnyH_ready (rs := [5]) (by kernel_rfl) (by simp) ?_
          refine AllReadyH.cons (by simp only [List.getElem?_toArray, List.getElem?_cons_succ, List.getElem?_cons_zero]; rfl) (fun K hK => ?_) AllReadyH.nil
          refine step_del (by rfl) (.tmp 47) (.tmp 48) (by rfl) (by rfl) (by rfl) HDL.out ?_
          refine hK.out _ _ ⟨c6, l6⟩ (fun hHeld => ?_)
          clear hK K
          try simp only [Act.put, List.setIfInBounds_toArray, List.set_cons_zero, List.set_cons_succ]
          refine wpAnyH_done (by kernel_rfl) ?_ _
          refine NoPanic.normal ?_
          go_wp2_with fail
          refine ⟨⟨_, cnt2, ss ++ [k], adel k Z, RG6, CL2, GZ6, Lib.hid (by rw [gr_del, GE.out, rmv_snoc]), O6⟩, ?_⟩
          rw [RG6.out.left_eq, HRL2.out]
          exact HLT.out
end Go.Proofs.YthfkmfepeafgjaaGreatDoor
