/- SWEPT -/
import Derived.ChangeVars
import Derived.Deep.DeepHandedRow
import Derived.Deep.DeepWitnessRowRef
import Derived.JoinedOf
import Derived.LaidHandle
import Derived.LaidLaws
import Derived.PinnedBridge
import Derived.SevenTiedAt
import Derived.SizedLaws
import Derived.Test.YtfgbpinfplllgaaGreatDoorCards
import Derived.Test.YtfgbpinfplllgaaGreatDoorZStAs
import Derived.Test.YtfgbpinfplllgaaGreatDoorTie
set_option linter.unusedVariables false
namespace Go.Proofs.YtfgbpinfplllgaaGreatDoor
open Go.RowKit Go.Shelf Go.ChangeShapes Go.WideShapes Go.ChangeAt
set_option maxRecDepth 100000
def errList : List (String × DataW Unit) := Rows.storeNilRow.laid
theorem er_global : Tryz.prog.globalNamed "errors.errorType" = some 0 := by kernel_rfl
theorem er_rtype : (Tryz.prog.cutTypes.find? (·.1 == "internal/reflectlite.rtype")).map (·.2) = some 244 := by kernel_rfl
theorem er_one : ((List.range Tryz.prog.types.size).filter fun t => Tryz.prog.rowNamed t [101, 114, 114, 111, 114]) = [99] := by kernel_rfl
theorem er_handle : typeHandle Tryz.prog 99 = .pointer (some ⟨2, 99, none⟩) := by kernel_rfl
theorem laidErr_of {W : World} (h : laidMetH Tryz.prog errList W) : LaidErr W := by
  have h' : laidMet Tryz.prog [] W ∧ handlesMet Tryz.prog errList W := h
  obtain ⟨name, u, ty, e1, e2, e3, e4, e5⟩ := h'.2 _ (List.mem_singleton.2 rfl)
  have en : name = [101, 114, 114, 111, 114] := (Option.some.inj e1).symm
  subst en
  obtain rfl := Option.some.inj (er_rtype.symm.trans e2)
  have hm : ty ∈ (List.range Tryz.prog.types.size).filter fun t => Tryz.prog.rowNamed t [101, 114, 114, 111, 114] := List.mem_filter.2 ⟨List.mem_range.2 e3, e4⟩
  rw [er_one] at hm
  obtain rfl := List.mem_singleton.1 hm
  rw [er_handle] at e5
  have h0 := World.var?_cell er_global e5 0
  unfold LaidErr
  simpa using h0
theorem own8 : ownKnob Tryz.prog.godebug = none := by kernel_rfl
theorem laidOut8 : laidOutB Tryz.prog = true := by kernel_rfl
noncomputable def laidWorld (os : Os) : World :=
  let w0 := World.holding Tryz.prog os ⟨#[], #[], []⟩
  { w0 with heap := w0.heap.modify 0 fun
      | .cells _ t frozen => .cells #[.iface 244 (.agg #[.pointer (some ⟨2, 99, none⟩)])] t frozen
      | o => o }
theorem laid_met (os : Os) (args : Array Value) : laidMetH Tryz.prog errList ((laidWorld os).forCall (fun _ _ => 0) ⟨#[], args, []⟩).memory :=
  laidMetH_of_parts (laidMet_nil _ _) (by kernel_rfl)
end Go.Proofs.YtfgbpinfplllgaaGreatDoor
