/- Few hands back a slice of its own with the first bytes. -/
import Derived.Test.YtcolkgeflokgeaaDoorOctKit
namespace Go.Proofs.YtcolkgeflokgeaaDoor
open Go.RowKit

end Go.Proofs.YtcolkgeflokgeaaDoor
