/- Few hands back a slice of its own with the first bytes. -/
import Derived.Test.YtemfblhlkonlpaaDoorOctKit
namespace Go.Proofs.YtemfblhlkonlpaaDoor
open Go.RowKit

end Go.Proofs.YtemfblhlkonlpaaDoor
