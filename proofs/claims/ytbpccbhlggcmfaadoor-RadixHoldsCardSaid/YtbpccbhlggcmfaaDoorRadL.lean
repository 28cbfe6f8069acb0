/- What a tree of digits tells, by what was put: plain mathematics. No condition. -/
import Derived.Test.YtbpccbhlggcmfaaDoorRadK
namespace Go.Proofs.YtbpccbhlggcmfaaDoor
open Go.RowKit

/-- The tree holds just these entries. -/
structure TK (T : Nd) (k : En) : Prop where
  eq : EqE T.ents k
  h32 : H32 (keys k)
  nd : (keys k).Nodup
theorem TK.none : TK .none [] := ⟨EqE.refl _, H32.nil, .nil⟩
theorem TK.get {T : Nd} {k : En} (H : TK T k) (hw : T.Wf []) {h : List UInt8} (hh : h.length = 32) : T.lk 0 h = kget h k := by
  have := hw.kget hh List.nil_prefix
  rw [← H.eq h, this]; rfl
theorem TK.put {T T' : Nd} {k : En} (H : TK T k) (hw : T.Wf []) {h : List UInt8} {m : Int} {ρ σ : Nat → Nat} (hh : h.length = 32) (hP : PutS [] h m ρ σ T T') : TK T' (kput k h m) := by
  refine ⟨fun x => ?_, ?_, keys_put_nodup H.nd h m⟩
  · by_cases hx : x.length = 32
    · have h1 := hP.wf.kget hx List.nil_prefix
      have h2 := hP.lk x hx List.nil_prefix
      rw [h1, h2]
      by_cases e : x = h
      · subst e; rw [if_pos rfl, kget_put_same]
      · rw [if_neg e, kget_put_other h x m e]; exact H.get hw hx
    · have h1 : x ∉ keys T'.ents := fun hm => by
        obtain ⟨e, he, rfl⟩ := List.mem_map.1 hm
        exact hx (hP.wf.mem he).1
      rw [kget_none h1, kget_put_other h x m (fun e => hx (by rw [e, hh]))]
      exact (kget_none fun hm => hx (H.h32 x hm)).symm
  · rw [keys_put]
    split
    · exact H.h32
    · exact H.h32.app (H32.one hh)
theorem TK.count {T : Nd} {k : En} (H : TK T k) (hw : T.Wf []) : T.ents.length = k.length := H.eq.count hw.nodup H.nd
theorem TK.keys {T : Nd} {k : En} (H : TK T k) (hw : T.Wf []) : Go.Proofs.YtbpccbhlggcmfaaDoor.keys T.ents = rsort (Go.Proofs.YtbpccbhlggcmfaaDoor.keys k) := H.eq.asc hw.asc
/-- The hashes that begin so. -/
def selL (k : En) (s : List UInt8) : List (List UInt8) := (rsort (keys k)).filter fun x => s.isPrefixOf (tx x)
def allL (k : En) (s : List UInt8) (M : Int) : List (List UInt8) := if s = [] ∨ pre s = true then (selL k s).take M.toNat else []
theorem TK.all {T : Nd} {k : En} (H : TK T k) (hw : T.Wf []) (s : List UInt8) (M : Int) : allS T s M = allL k s M := by
  unfold allS allL selL
  rw [H.keys hw]
def one9 : List (List UInt8) → List UInt8 × Int
  | [] => (hz, 11)
  | [h] => (h, 0)
  | _ => (hz, 14)
def preL (k : En) (s : List UInt8) : List UInt8 × Int := if pre s = false then (hz, 1) else one9 (selL k s)
theorem fnd_wf : ∀ (s : List UInt8) {t : Nd} {p : List UInt8}, t.Wf p → ∃ q, (t.fnd s).Wf q
  | [], t, p, h => by rw [fnd_nil]; exact ⟨p, h⟩
  | _ :: _, .none, p, h => ⟨p, h⟩
  | _ :: _, .leaf _ _ _, p, h => ⟨p, h⟩
  | _ :: s, .fork _ _ _, _, h => fnd_wf s (h.2.1 _)
theorem TK.pre {T : Nd} {k : En} (H : TK T k) (hw : T.Wf []) (s : List UInt8) : preS T s = preL k s := by
  unfold preS preL
  by_cases hp : Go.Proofs.YtbpccbhlggcmfaaDoor.pre s = true
  · rw [if_neg (by rw [hp]; decide), if_neg (by rw [hp]; decide)]
    have h1 := fnd_keys hw (pre_digs9 hp).1
    rw [H.keys hw] at h1
    change _ = selL k s at h1
    rw [← h1]
    obtain ⟨q, hq⟩ := fnd_wf s hw
    have hq2 : ((T.fnd s).fin s).Wf q := by
      generalize T.fnd s = u at *
      cases u with
      | none => trivial
      | leaf b x m =>
        show (if s <+: tx x then Nd.leaf b x m else .none).Wf q
        split
        · exact hq
        · trivial
      | fork b g ws => exact hq
    generalize (T.fnd s).fin s = u at *
    cases u with
    | none => rfl
    | leaf b x m => rfl
    | fork b g ws =>
      have h2 := hq2.2.2
      generalize (Nd.fork b g ws).ents = l at *
      match l, h2 with
      | a :: b :: l, _ => rfl
  · have hp' : Go.Proofs.YtbpccbhlggcmfaaDoor.pre s = false := by simpa using hp
    rw [if_pos hp', if_pos hp']
end Go.Proofs.YtbpccbhlggcmfaaDoor
