/- Add. Conditions: the numbers are no greater than a program's may be; what is added lies in no block of the log. -/
import Derived.Test.YtfneadlknieppaaDoorLogB
import Derived.Test.YtfneadlknieppaaDoorDskB
import Derived.Deep.RegionHeld3
namespace Go.Proofs.YtfneadlknieppaaDoor
open Go.RowKit
open Go.Maps

def addS (s : St) (nm : Key) (R : List Rc) (k : Int) (x : List Int) : Int × St × List Rc :=
  if k < 1 ∨ 255 < k ∨ 1048576 < x.length then (1, s, R) else if (s.append nm (frm k x)).1 = 0 then (0, (s.append nm (frm k x)).2, R ++ [(k, x)]) else ((s.append nm (frm k x)).1, (s.append nm (frm k x)).2, R)
theorem enoOf_nz {k : Int} (h : ¬ k = 0) : enoOf k = eno k := if_neg h
theorem wp_region_any_drew {P : Program} {ops : Array Oper} {Q : Exit → Act → World → Prop} {id : Nat} {a : Act} {w : World} (hm : P.follows .mixedOrders = true) (h : wpAny P .any ops Q ops.size (Array.replicate ops.size false) a w.drew) : (Code.region id ops true).wp P Q a w := wp_region_any hm h
end Go.Proofs.YtfneadlknieppaaDoor
