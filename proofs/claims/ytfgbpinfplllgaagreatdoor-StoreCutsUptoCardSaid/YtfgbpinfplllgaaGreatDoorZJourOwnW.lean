/- SWEPT -/
import Derived.Test.YtfgbpinfplllgaaGreatDoorZJourDK
import Derived.Test.YtfgbpinfplllgaaGreatDoorZTblK
set_option linter.unusedVariables false
set_option linter.unusedSimpArgs false
namespace Go.Proofs.YtfgbpinfplllgaaGreatDoor
open Go.RowKit Go.Shelf
set_option maxRecDepth 100000
end Go.Proofs.YtfgbpinfplllgaaGreatDoor
