/- Few hands back a slice of its own with the first bytes. · Few hands back a slice of its own with the first bytes. -/
import Derived.Test.YtbpccbhlggcmfaaGreatDoorOctBits
namespace Go.Proofs.YtbpccbhlggcmfaaGreatDoor
open Go.RowKit

end Go.Proofs.YtbpccbhlggcmfaaGreatDoor
namespace Go.Proofs.YtbpccbhlggcmfaaGreatDoor
open Go.RowKit

end Go.Proofs.YtbpccbhlggcmfaaGreatDoor
