/- THE LAW's OWN LOOP over a text. Own work of the verifier. -/
import Derived.Test.YtndoilgepidjeaaGreatDoorL1
namespace Go.Proofs.YtndoilgepidjeaaGreatDoor
open Go.RowKit

end Go.Proofs.YtndoilgepidjeaaGreatDoor
