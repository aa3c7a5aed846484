/- The program's own contracts of layer 13, as the bundle that the laws take. -/
import Derived.Test.YtenpmbfncnepgaaDoorTreEK
import Derived.Test.YtenpmbfncnepgaaDoorTzRb
import Derived.Test.YtenpmbfncnepgaaDoorTzS
import Derived.Test.YtenpmbfncnepgaaDoorTzW
namespace Go.Proofs.YtenpmbfncnepgaaDoor
open Go.RowKit Go.Shelf
set_option linter.unusedVariables false
set_option maxRecDepth 100000
set_option linter.unusedSimpArgs false

theorem k13 : K13 where
  new := New_v
  may := fun t cs F w hT h hm => (May_v t cs F w hT h hm).mono fun e w' hh => ⟨true, hh.1, ⟨fun _ => hm, fun _ => rfl⟩, hh.2⟩
  find := fun t cs h0 F w hT h _ hm => by
    have e : findV t h0 = findT t.nodes h0 := by unfold findV; rw [if_pos hm]
    rw [e]
    exact Find_v t cs h0 F w hT h hm
  lookup := fun t cs h0 nm F w hT h _ hm => Lookup_v t cs h0 nm F w hT h hm
  make := fun t cs h0 nm dir F w hT h _ hm => Make_v t cs h0 nm dir F w hT h hm
  remove := fun t cs h0 nm dir F w hT h _ hm => Remove_v t cs h0 nm dir F w hT h hm
  rename := fun t cs h0 nm to k F w hT h _ _ hm => Rename_v t cs h0 nm to k F w hT h hm
  write := fun t cs h0 off dv b F G w hT h _ ho hb hm => Write_v t cs h0 off dv b F G w hT h ho hb hm

end Go.Proofs.YtenpmbfncnepgaaDoor
