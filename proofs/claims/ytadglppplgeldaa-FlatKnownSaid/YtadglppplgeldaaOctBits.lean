/- Plain words for the proofs on bytes: what a slice of bytes holds, what an object with one slice holds, what a call may have written, and the bytes of a number. No condition. · bytes.Clone hands back a slice of its own with the same bytes. The slice is within what a slice may take up. · Plain arithmetic: an 'or' of two numbers of 64 bits that share no bit is their sum. -/
import Derived.Test.YtadglppplgeldaaChecked
import Derived.WalkKit
import Derived.WalkSpells
import Derived.BigRegion
import Derived.Deep.RegionLaw
import Derived.Deep.DrawnRows
import Derived.Deep.AppendLies
import Derived.KernelRfl
import Derived.Lib.Hide
import Derived.Lib.EndianBits
import Derived.Laws.BitsAllLaws
import Derived.RowKit
namespace Go.Proofs.Ytadglppplgeldaa
open Go.RowKit

/-- Numbers as bytes in memory. -/
abbrev us (l : List Int) : List Value := l.map (Value.int .u8)

/-- Every number of the list is a byte. -/
def Okb (l : List Int) : Prop := ∀ x ∈ l, 0 ≤ x ∧ x < 256
theorem Okb.nil : Okb [] := by intro x hx; cases hx
theorem Okb.app {l m : List Int} (h : Okb l) (k : Okb m) : Okb (l ++ m) := by
  intro x hx
  rcases List.mem_append.1 hx with hx | hx
  · exact h x hx
  · exact k x hx
theorem Okb.tail {x : Int} {l : List Int} (h : Okb (x :: l)) : Okb l := fun y hy => h y (List.mem_cons_of_mem _ hy)
theorem Okb.drop {l : List Int} (h : Okb l) (n : Nat) : Okb (l.drop n) := fun y hy => h y (List.mem_of_mem_drop hy)
theorem Okb.take {l : List Int} (h : Okb l) (n : Nat) : Okb (l.take n) := fun y hy => h y (List.mem_of_mem_take hy)

/-- Between w and w' nothing has turned but the blocks that S names and new ones. -/
structure Only (S : Nat → Prop) (w w' : World) : Prop where
  os : w'.os = w.os
  tape : w'.tape = w.tape
  output : w'.output = w.output
  size : w.heap.size ≤ w'.heap.size
  block : ∀ k, k < w.heap.size → ¬ S k → w'.heap[k]? = w.heap[k]?

theorem Only.refl (S : Nat → Prop) (w : World) : Only S w w := ⟨rfl, rfl, rfl, Nat.le_refl _, fun _ _ _ => rfl⟩
theorem Only.drew {S : Nat → Prop} {a w : World} (h : Only S a w) : Only S a w.drew := ⟨h.os, h.tape, h.output, h.size, h.block⟩
theorem Only.trans {S T U : Nat → Prop} {a b c : World} (h : Only S a b) (k : Only T b c) (hS : ∀ x, S x → U x) (hT : ∀ x, x < a.heap.size → T x → U x) : Only U a c :=
  ⟨k.os.trans h.os, k.tape.trans h.tape, k.output.trans h.output, Nat.le_trans h.size k.size, fun i hi hu =>
    (k.block i (Nat.lt_of_lt_of_le hi h.size) (fun ht => hu (hT i hi ht))).trans (h.block i hi (fun hs => hu (hS i hs)))⟩
theorem Only.mono {S T : Nat → Prop} {a b : World} (h : Only S a b) (hS : ∀ x, x < a.heap.size → S x → T x) : Only T a b :=
  ⟨h.os, h.tape, h.output, h.size, fun i hi hu => h.block i hi (fun hs => hu (hS i hi hs))⟩
theorem Only.alloc {S : Nat → Prop} {a w : World} (h : Only S a w) (o : Obj) : Only S a (w.alloc o) :=
  h.trans (T := fun _ => False) ⟨rfl, rfl, rfl, by simp, fun k hk _ => Below.heap_alloc _ _ _ hk⟩ (fun _ h => h) (fun _ _ h => h.elim)
theorem Only.setCell {S : Nat → Prop} {a w : World} (h : Only S a w) {p : Addr} (hp : S p.block) (u : Value) : Only S a (w.setCell p u) :=
  h.trans (T := fun k => k = p.block) ⟨rfl, rfl, rfl, by simp [World.setCell], fun k _ hk => Below.heap_setCell _ _ _ _ hk⟩ (fun _ h => h) (fun _ _ h => h ▸ hp)
theorem Only.grown {S : Nat → Prop} {a w w' : World} {row : Option Nat} (h : Only S a w) (hg : w.grownBy w' row) (hr : ∀ k, k < a.heap.size → row = some k → S k) : Only S a w' :=
  h.trans (T := fun k => row = some k) ⟨hg.os, hg.tape, hg.output, hg.size, fun k hk hn => hg.block k hk (fun e => hn e.symm)⟩ (fun _ h => h) (fun k hk e => hr k hk e)
theorem Only.below {S : Nat → Prop} {w w' : World} {B : Nat} (h : Only S w w') (hB : B ≤ w.heap.size) (hS : ∀ k, S k → B ≤ k) : Below B w w' :=
  ⟨h.os, h.tape, h.output, h.size, fun k hk => h.block k (by omega) (fun hs => by have := hS k hs; omega)⟩
theorem Only.of_below {w w' : World} {S : Nat → Prop} (h : Below w.heap.size w w') : Only S w w' :=
  ⟨h.os, h.tape, h.output, h.size, fun k hk _ => h.block k hk⟩

/-- The object at block b: one cell, the slice v, which owns the bytes xs. -/
def Wr (T B : Nat) (w : World) (b : Nat) (v : Value) (xs : List Int) : Prop :=
  B ≤ b ∧ w.heap[b]? = some (.cells #[v] T (0, 0)) ∧ w.ownsRow B 5 1 v xs.length (us xs)

/-- Behind a call that wrote to that object: it holds the bytes ys now, and nothing else has turned. -/
def Wrote (T B : Nat) (w : World) (b : Nat) (v : Value) (ys : List Int) (w' : World) : Prop :=
  ∃ v', Wr T B w' b v' ys ∧ Only (fun k => k = b ∨ v.ownBlock = some k) w w' ∧ (v'.ownBlock = v.ownBlock ∨ ∃ g, v'.ownBlock = some g ∧ w.heap.size ≤ g)

theorem Wr.cell {T B b : Nat} {w : World} {v : Value} {xs : List Int} (h : Wr T B w b v xs) : w.cell? ⟨b, 0, none⟩ = some v := by
  rw [cell_of_row w b 0 _ _ _ h.2.1]; rfl
theorem Wr.apart {T B b : Nat} {w : World} {v : Value} {xs : List Int} (hT : T ≠ 5) (h : Wr T B w b v xs) : some b ≠ v.ownBlock := by
  intro he
  obtain ⟨_, h1, _, h2⟩ := h
  rcases h2 with ⟨rfl, _⟩ | ⟨g, cap, cur, rfl, _, hg, _⟩
  · simp [Value.ownBlock] at he
  · simp [Value.ownBlock] at he
    subst he
    rw [h1] at hg
    simp at hg
    exact hT hg.2
theorem Wr.lt {T B b : Nat} {w : World} {v : Value} {xs : List Int} (h : Wr T B w b v xs) : b < w.heap.size := (Array.getElem?_eq_some_iff.1 h.2.1).1
theorem Wr.ownlt {T B b : Nat} {w : World} {v : Value} {xs : List Int} (h : Wr T B w b v xs) {k : Nat} (hk : v.ownBlock = some k) : k < w.heap.size := (h.2.2.lt k hk).2
theorem Wr.base {T B b : Nat} {w : World} {v : Value} {xs : List Int} (h : Wr T B w b v xs) : B ≤ w.heap.size := Nat.le_trans h.1 (Nat.le_of_lt h.lt)
/-- The object is as it was where neither its block nor its row has turned. -/
theorem Wr.kept {T B b : Nat} {w w' : World} {v : Value} {xs : List Int} {S : Nat → Prop} (h : Wr T B w b v xs) (ho : Only S w w') (hb : ¬ S b) (hv : ∀ k, v.ownBlock = some k → ¬ S k) : Wr T B w' b v xs := by
  refine ⟨h.1, (ho.block b h.lt hb).trans h.2.1, h.2.2.1, ?_⟩
  rcases h.2.2.2 with hn | ⟨g, cap, cur, rfl, hbg, hg, rest⟩
  · exact .inl hn
  · exact .inr ⟨g, cap, cur, rfl, hbg, (ho.block g (h.ownlt rfl) (hv g rfl)).trans hg, rest⟩

theorem Wr.kb {T B b : Nat} {w w' : World} {v : Value} {xs : List Int} (h : Wr T B w b v xs) (hb : Below w.heap.size w w') : Wr T B w' b v xs := h.kept (S := fun _ => False) (Only.of_below hb) (fun h => h) (fun _ _ h => h)
theorem Wr.below {T B b : Nat} {w w' : World} {v : Value} {xs : List Int} (h : Wr T B w b v xs) (o : Only (fun k => k = b ∨ v.ownBlock = some k) w w') : Below B w w' :=
  o.below h.base fun k hk => by
    rcases hk with rfl | hk
    · exact h.1
    · exact (h.2.2.lt k hk).1

theorem Wrote.refl {T B b : Nat} {w : World} {v : Value} {xs : List Int} (h : Wr T B w b v xs) : Wrote T B w b v xs w :=
  ⟨v, h, Only.refl _ _, .inl rfl⟩
theorem Wrote.trans {T B b : Nat} {w w1 w2 : World} {v v1 : Value} {ys zs : List Int} (_h : Wr T B w1 b v1 ys) (ho : Only (fun k => k = b ∨ v.ownBlock = some k) w w1)
    (hv : v1.ownBlock = v.ownBlock ∨ ∃ g, v1.ownBlock = some g ∧ w.heap.size ≤ g) (h2 : Wrote T B w1 b v1 zs w2) : Wrote T B w b v zs w2 := by
  obtain ⟨v2, hw2, ho2, hv2⟩ := h2
  refine ⟨v2, hw2, ho.trans ho2 (fun _ h => h) ?_, ?_⟩
  · intro x hx h
    rcases h with h | h
    · exact .inl h
    · rcases hv with hv | ⟨g, hg, hs⟩
      · exact .inr (hv ▸ h)
      · rw [hg] at h; cases h; omega
  · rcases hv2 with hv2 | ⟨g, hg, hs⟩
    · rw [hv2]; exact hv
    · exact .inr ⟨g, hg, Nat.le_trans ho.size hs⟩

/-- One statement 'o.f = append(o.f, ..)' behind what was written before. -/
theorem Wrote.app {T B b : Nat} {w wr wx w1 : World} {v v' : Value} {zs news : List Int} {g cap H n : Nat} (hT : T ≠ 5) (h : Wr T B wr b v' zs) (ho : Only (fun k => k = b ∨ v.ownBlock = some k) w wr)
    (hv : v'.ownBlock = v.ownBlock ∨ ∃ g, v'.ownBlock = some g ∧ w.heap.size ≤ g) (hx : Below wr.heap.size wr wx)
    (hn : n = zs.length + news.length) (hown : w1.ownsRow B 5 1 (.slice (some ⟨g, 0, none⟩) n cap) n (us zs ++ us news)) (hgrow : wx.grownBy w1 v'.ownBlock)
    (hat : v'.ownBlock = some g ∨ g = H) (hH : wr.heap.size ≤ H) : Wrote T B w b v (zs ++ news) (w1.setCell ⟨b, 0, none⟩ (.slice (some ⟨g, 0, none⟩) n cap)) := by
  have hap := h.apart hT
  have hb1 : w1.heap[b]? = some (.cells #[v'] T (0, 0)) := ((hgrow.block b (Nat.lt_of_lt_of_le h.lt hx.size) hap).trans (hx.block b h.lt)).trans h.2.1
  have hgb : g ≠ b := by
    intro e
    subst e
    rcases hown.2 with ⟨hs, _⟩ | ⟨g', cap', cur, hs, _, hg, _⟩
    · cases hs
    · cases hs
      rw [hb1] at hg
      simp at hg
      exact hT hg.2
  have honly : Only (fun k => k = b ∨ v.ownBlock = some k) w w1 := by
    refine Only.grown (ho.trans (T := fun _ => False) (Only.of_below hx) (fun _ h => h) (fun _ _ h => h.elim)) hgrow ?_
    intro k hk e
    rcases hv with hv | ⟨g2, hg2, hs⟩
    · exact .inr (hv ▸ e)
    · rw [hg2] at e; cases e; omega
  refine ⟨.slice (some ⟨g, 0, none⟩) n cap, ⟨h.1, one_setCell hb1, ?_⟩, honly.setCell (.inl rfl) _, ?_⟩
  · have hl : (zs ++ news).length = n := by rw [List.length_append, hn]
    refine ⟨by simp, ?_⟩
    rcases hown.2 with ⟨hs, _⟩ | ⟨g', cap', cur, hs, hbg, hg, r1, r2, r3, r4⟩
    · cases hs
    · cases hs
      refine .inr ⟨g, cap, cur, by rw [hl], hbg, ?_, by rw [hl]; exact r1, r2, r3, ?_⟩
      · rw [Below.heap_setCell _ _ _ _ hgb]; exact hg
      · rw [hl, r4]; simp [us]
  · rcases hat with hat | hat
    · rcases hv with hv | ⟨g2, hg2, hs⟩
      · exact .inl (by rw [← hv, hat]; rfl)
      · exact .inr ⟨g2, by rw [← hg2, hat]; rfl, hs⟩
    · exact .inr ⟨g, rfl, by have := ho.size; omega⟩

/-- The same value stored anew. -/
theorem Wrote.same {T B b : Nat} {w w1 : World} {v v' : Value} {xs : List Int} (h : Wr T B w b v xs) (hT : T ≠ 5) (hown : w1.ownsRow B 5 1 v' xs.length (us xs)) (hgrow : w.grownBy w1 v.ownBlock)
    (hat : v'.ownBlock = v.ownBlock ∨ v'.ownBlock = some w.heap.size) : Wrote T B w b v xs (w1.setCell ⟨b, 0, none⟩ v') := by
  have hap := h.apart hT
  have hb1 : w1.heap[b]? = some (.cells #[v] T (0, 0)) := (hgrow.block b h.lt hap).trans h.2.1
  have honly : Only (fun k => k = b ∨ v.ownBlock = some k) w w1 := Only.grown (Only.refl _ _) hgrow (fun k _ e => .inr e)
  refine ⟨v', ⟨h.1, one_setCell hb1, hown.1, ?_⟩, honly.setCell (.inl rfl) _, ?_⟩
  · rcases hown.2 with hn | ⟨g, cap, cur, rfl, hbg, hg, rest⟩
    · exact .inl hn
    · refine .inr ⟨g, cap, cur, rfl, hbg, ?_, rest⟩
      rw [Below.heap_setCell _ _ _ _ ?_]
      · exact hg
      · intro e
        simp only at e
        subst e
        rw [hb1] at hg
        simp at hg
        exact hT hg.2
  · rcases hat with hat | hat
    · exact .inl hat
    · exact .inr ⟨_, hat, Nat.le_refl _⟩

theorem Wr.frozen {T B b : Nat} {w : World} {v : Value} {xs : List Int} (h : Wr T B w b v xs) : w.frozen? ⟨b, 0, none⟩ = false := free_of_one h.2.1

/-- Byte j of n, counted from the least significant one. -/
def byteAt (n : Int) (j : Nat) : Int := IntKind.u8.wrap (n / 2 ^ (8 * j))
/-- The m lowest bytes of n, the most significant one first. -/
def be (n : Int) : Nat → List Int
  | 0 => []
  | j + 1 => byteAt n j :: be n j
theorem be_length (n : Int) : ∀ m, (be n m).length = m
  | 0 => rfl
  | j + 1 => by rw [be, List.length_cons, be_length n j]

/-- Groups of seven bits, the least significant one first; f: one group less than there may be. -/
def leb : Nat → Int → List Int
  | 0, u => [u]
  | f + 1, u => if u < 128 then [u] else (u % 128 + 128) :: leb f (u / 128)

/-- The slice v holds the bytes l in w. -/
def Seen (w : World) (v : Value) (l : List Int) : Prop :=
  (v = .slice none 0 0 ∧ l = []) ∨ ∃ a cap, v = .slice (some a) l.length cap ∧ l.length ≤ cap ∧ ∀ j u, (us l)[j]? = some u → w.cell? (a.add j) = some u

theorem Addr.add_block (a : Addr) (j : Nat) : (a.add j).block = a.block := by unfold Addr.add; split <;> rfl
theorem Seen.kept {w w' : World} {v : Value} {l : List Int} (h : Seen w v l) (hb : ∀ k, v.ownBlock = some k → w'.heap[k]? = w.heap[k]?) : Seen w' v l := by
  rcases h with h | ⟨a, cap, rfl, hc, hu⟩
  · exact .inl h
  · refine .inr ⟨a, cap, rfl, hc, fun j u hj => ?_⟩
    rw [World.cell?_of_block (w := w) (a := a.add j) (by rw [Addr.add_block]; exact hb _ rfl)]
    exact hu j u hj
theorem Seen.kb {w w' : World} {v : Value} {l : List Int} (h : Seen w v l) (hb : Below w.heap.size w w') : Seen w' v l := by
  rcases h with h | ⟨a, cap, rfl, hc, hu⟩
  · exact .inl h
  · refine .inr ⟨a, cap, rfl, hc, fun j u hj => ?_⟩
    have h1 := hu j u hj
    have h2 := World.block_lt_of_cell? w _ h1
    rw [World.cell?_of_block (w := w) (hb.block _ h2)]
    exact h1
theorem Seen.nil (w : World) : Seen w (.slice none 0 0) [] := .inl ⟨rfl, rfl⟩
theorem Seen.own {w : World} {B : Nat} {v : Value} {l : List Int} (h : w.ownsRow B 5 1 v l.length (us l)) : Seen w v l := by
  have hc : ∀ g, v.ownBlock = some g → _ := fun g hg => h.cells (g := g) hg
  rcases h.2 with ⟨rfl, h0⟩ | ⟨g, cap, cur, rfl, _, _, hn, _⟩
  · exact .inl ⟨rfl, List.eq_nil_of_length_eq_zero h0⟩
  · exact .inr ⟨_, cap, rfl, hn, hc _ rfl⟩

theorem u8info : (Try.prog.info? 5).map (fun i => (i.zero, i.size, i.bytes)) = some (some (.int .u8 0), 1, 1) := by kernel_rfl

end Go.Proofs.Ytadglppplgeldaa
namespace Go.Proofs.Ytadglppplgeldaa
open Go.RowKit

end Go.Proofs.Ytadglppplgeldaa
namespace Go.Proofs.Ytadglppplgeldaa
open Go.RowKit

theorem wrap64_eq (n : Int) : IntKind.i64.wrap n = wrap64 n := by unfold wrap64; exact IntKind.wrap_i64 n
theorem wrap64_mod (n : Int) : wrap64 n % 18446744073709551616 = n % 18446744073709551616 := by unfold wrap64; omega
theorem wrap64_congr {a b : Int} (h : a % 18446744073709551616 = b % 18446744073709551616) : wrap64 a = wrap64 b := by unfold wrap64; omega
theorem wrap64_wrap (a c : Int) : wrap64 (wrap64 a * c) = wrap64 (a * c) := by
  apply wrap64_congr
  rw [Int.mul_emod, wrap64_mod, ← Int.mul_emod]
theorem wrap64_u64 (a : Int) : wrap64 (IntKind.u64.wrap a) = wrap64 a := by
  apply wrap64_congr; rw [IntKind.wrap_u64]; omega

theorem or_join (A Y : Int) (s : Nat) (hs : s ≤ 63) (hA : A % 2 ^ s = 0) (h0 : 0 ≤ Y) (hy : Y < 2 ^ s) :
    ((A % 18446744073709551616).toNat ||| (Y % 18446744073709551616).toNat : Nat) = ((A % 18446744073709551616) + Y).toNat := by
  have hp : (2 : Int) ^ s ≤ 2 ^ 63 := by exact_mod_cast Nat.pow_le_pow_right (by decide) hs
  have hY : Y % 18446744073709551616 = Y := Int.emod_eq_of_lt h0 (by omega)
  rw [hY]
  have hd : (2 : Int) ^ s ∣ 18446744073709551616 := by
    refine ⟨2 ^ (64 - s), ?_⟩
    rw [← Int.pow_add, show s + (64 - s) = 64 from by omega]; rfl
  have hM : (A % 18446744073709551616) % 2 ^ s = 0 := by rw [Int.emod_emod_of_dvd _ hd]; exact hA
  have hM0 := Int.emod_nonneg A (show (18446744073709551616 : Int) ≠ 0 from by decide)
  obtain ⟨m, hm⟩ := Int.eq_ofNat_of_zero_le hM0
  obtain ⟨y, rfl⟩ := Int.eq_ofNat_of_zero_le h0
  rw [hm] at hM ⊢
  have hy' : y < 2 ^ s := by exact_mod_cast hy
  have hm' : m % 2 ^ s = 0 := by exact_mod_cast hM
  have hq : m = 2 ^ s * (m / 2 ^ s) := by
    have := Nat.div_add_mod m (2 ^ s)
    omega
  have h := Nat.two_pow_add_eq_or_of_lt hy' (m / 2 ^ s)
  rw [← hq] at h
  simp only [Int.toNat_natCast]
  rw [← h]
  omega

theorem or_i64 (A Y : Int) (s : Nat) (hs : s ≤ 63) (hA : A % 2 ^ s = 0) (h0 : 0 ≤ Y) (hy : Y < 2 ^ s) : bits .or .i64 (wrap64 A) Y = wrap64 (A + Y) := by
  show IntKind.i64.wrap ((BitVec.ofInt 64 (wrap64 A) ||| BitVec.ofInt 64 Y).toNat : Int) = _
  rw [BitVec.toNat_or, BitVec.toNat_ofInt, BitVec.toNat_ofInt, wrap64_eq]
  have e1 : wrap64 A % ((2 ^ 64 : Nat) : Int) = A % 18446744073709551616 := wrap64_mod A
  have e2 : Y % ((2 ^ 64 : Nat) : Int) = Y % 18446744073709551616 := rfl
  rw [e1, e2, or_join A Y s hs hA h0 hy]
  apply wrap64_congr
  have := Int.emod_nonneg A (show (18446744073709551616 : Int) ≠ 0 from by decide)
  omega
theorem or_i64' (A Y : Int) (s : Nat) (hs : s ≤ 63) (hA : A % 2 ^ s = 0) (h0 : 0 ≤ Y) (hy : Y < 2 ^ s) : bits .or .i64 Y (wrap64 A) = wrap64 (A + Y) := by
  show IntKind.i64.wrap ((BitVec.ofInt 64 Y ||| BitVec.ofInt 64 (wrap64 A)).toNat : Int) = _
  rw [BitVec.toNat_or, BitVec.toNat_ofInt, BitVec.toNat_ofInt, wrap64_eq]
  have e1 : wrap64 A % ((2 ^ 64 : Nat) : Int) = A % 18446744073709551616 := wrap64_mod A
  have e2 : Y % ((2 ^ 64 : Nat) : Int) = Y % 18446744073709551616 := rfl
  rw [e1, e2, Nat.or_comm, or_join A Y s hs hA h0 hy]
  apply wrap64_congr
  have := Int.emod_nonneg A (show (18446744073709551616 : Int) ≠ 0 from by decide)
  omega
theorem or_u64' (A Y : Int) (s : Nat) (hs : s ≤ 63) (hA : A % 2 ^ s = 0) (h0 : 0 ≤ Y) (hy : Y < 2 ^ s) : bits .or .u64 Y (IntKind.u64.wrap A) = IntKind.u64.wrap (A + Y) := by
  show IntKind.u64.wrap ((BitVec.ofInt 64 Y ||| BitVec.ofInt 64 (IntKind.u64.wrap A)).toNat : Int) = _
  rw [BitVec.toNat_or, BitVec.toNat_ofInt, BitVec.toNat_ofInt]
  have e1 : IntKind.u64.wrap A % ((2 ^ 64 : Nat) : Int) = A % 18446744073709551616 := by
    rw [IntKind.wrap_u64]; show A % 18446744073709551616 % 18446744073709551616 = _; omega
  have e2 : Y % ((2 ^ 64 : Nat) : Int) = Y % 18446744073709551616 := rfl
  rw [e1, e2, Nat.or_comm, or_join A Y s hs hA h0 hy]
  have := Int.emod_nonneg A (show (18446744073709551616 : Int) ≠ 0 from by decide)
  rw [IntKind.wrap_u64, IntKind.wrap_u64]
  omega

/-- 'n<<8 | int(b)'. -/
theorem shl8_or (a x : Int) (h0 : 0 ≤ x) (h1 : x < 256) : bits .or .i64 (wrap64 (wrap64 a * 256)) x = wrap64 (a * 256 + x) := by
  rw [wrap64_wrap]
  exact or_i64 (a * 256) x 8 (by decide) (by show a * 256 % 256 = 0; omega) h0 h1
end Go.Proofs.Ytadglppplgeldaa
