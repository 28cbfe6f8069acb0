/- 'append(s, x...)' of bytes at one operation of a plain region: s the call's own, x nil or not. The bytes are within what a slice may take up. -/
import Derived.Test.YtageblggakfbdaaGreatDoorOctKit
import Derived.Laws.AppendOwnNone
import Derived.Deep.Onto
import Derived.OwnWalk
namespace Go.Proofs.YtageblggakfbdaaGreatDoor
open Go.RowKit

/-- Four results. -/
theorem results_tmp4 {fn : Func} {t u v x : Tmp} (h : fn.results = #[.tmp t, .tmp u, .tmp v, .tmp x]) (tmps : Array Value) (P : Program) (w : World) :
    (results fn tmps).run P w = .ok (.tuple #[tmps.getD t undef, tmps.getD u undef, tmps.getD v undef, tmps.getD x undef]) w := by
  simp [results, h, go_sem]
theorem append_bytes {ops : Array Oper} {rest : List Oper} {o : Oper} {a : Act} {w : World} {Q : Exit → Act → World → Prop} (hgd : o.guard = none) (s x : Operand)
    (ho : o.op = .call { callee := .builtin .append, args := #[s, x], argTypes := #[29, 29] })
    (base : Nat) (v : Value) (xs : List Int) (hs : a.eval s = v) (hown : w.ownsRow base 5 1 v xs.length (us xs)) (u : Value) (l : List Int) (hx : a.eval x = u) (hse : Seen w u l)
    (hb : xs.length + l.length ≤ 140737488351232) (hbase : base ≤ w.heap.size)
    (h : ∀ v' w', w'.ownsRow base 5 1 v' (xs ++ l).length (us (xs ++ l)) → w.grownBy w' v.ownBlock → (v'.ownBlock = v.ownBlock ∨ v'.ownBlock = some w.heap.size) → wpList Tryz.prog ops Q rest (a.put o.dst v') w') :
    wpList Tryz.prog ops Q (o :: rest) a w := by
  obtain ⟨i0, hi0, hz0, hz1, hz2⟩ := info_parts u8info
  rcases hse with ⟨rfl, rfl⟩ | ⟨ad, cap, rfl, hc, hu⟩
  · refine wpList_append_own_none hgd s x _ ho base 5 i0 1 Tryz.underlying29 hi0 v xs.length (us xs) hs hown hx ?_
    exact h v w (by rw [List.append_nil]; exact hown) ⟨rfl, rfl, rfl, Nat.le_refl _, fun _ _ _ => rfl⟩ (.inl rfl)
  · refine wpList_append_own_at _ hgd s x _ ho base 5 i0 _ 1 1 Tryz.underlying29 hi0 hz0 hz1 hz2 rfl (by omega) v xs.length (us xs) hs hown ad l.length cap (us l) hx (by simp) hu (by intro u hu; obtain ⟨x, _, rfl⟩ := List.mem_map.1 hu; rfl) (by simp [maxLen]; omega) (by omega) hbase ?_
    intro v' w' h1 h2 _ h3
    refine h v' w' ?_ h2 h3
    rw [List.length_append, us, List.map_append]
    exact h1
end Go.Proofs.YtageblggakfbdaaGreatDoor
