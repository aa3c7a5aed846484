/- The program's own contract of layer 13's Same. -/
import Derived.Test.YtenpmbfncnepgaaGreatDoorTreZ
import Derived.Test.YtenpmbfncnepgaaGreatDoorTzYK
namespace Go.Proofs.YtenpmbfncnepgaaGreatDoor
open Go.RowKit Go.Shelf
set_option linter.unusedVariables false
set_option maxRecDepth 100000

theorem k13s : K13S where
  same := fun t cs ds F G w hm h k => Same_v t cs ds F G w hm h k

end Go.Proofs.YtenpmbfncnepgaaGreatDoor
