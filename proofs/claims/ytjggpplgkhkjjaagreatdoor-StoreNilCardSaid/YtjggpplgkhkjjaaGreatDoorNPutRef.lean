/- SWEPT -/
/- The reference of num.Put. -/
import Derived.Test.YtjggpplgkhkjjaaGreatDoorNumK
namespace Go.Proofs.YtjggpplgkhkjjaaGreatDoor
open Go.RowKit Go.Shelf
set_option linter.unusedVariables false
set_option maxRecDepth 100000

end Go.Proofs.YtjggpplgkhkjjaaGreatDoor
