/- SWEPT -/
import Derived.Test.YtfgbpinfplllgaaGreatDoorZNumK
set_option linter.unusedVariables false
namespace Go.Proofs.YtfgbpinfplllgaaGreatDoor
open Go.RowKit Go.Shelf
set_option maxRecDepth 100000
end Go.Proofs.YtfgbpinfplllgaaGreatDoor
