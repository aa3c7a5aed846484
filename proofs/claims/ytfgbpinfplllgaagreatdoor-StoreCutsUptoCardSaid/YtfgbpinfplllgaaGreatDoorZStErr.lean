/- SWEPT -/
import Derived.LaidEql
import Derived.Lib.IfaceEq
import Derived.RowKitTokens
import Derived.Stop.Asserts
import Derived.Stop.IfaceNil
import Derived.Test.YtfgbpinfplllgaaGreatDoorZWordsK
set_option linter.unusedVariables false
set_option linter.unusedSimpArgs false
namespace Go.Proofs.YtfgbpinfplllgaaGreatDoor
open Go.RowKit Go.Extern.Stop Go.Stop Go.Extern Go.Shelf
set_option maxRecDepth 100000
def seComparable : Array Value → Sem Value := ReflectliteType.method fun t => do Rtype.noPackHeld "Comparable" t; pure (.bool (← typeInfo t).comparable)
theorem se_typeOfE (v : Value) (w : World) : (ReflectliteType.typeOf #[.iface 25 v]).run Tryz.prog w = .ok (.iface 244 (.agg #[.pointer (some ⟨2, 25, none⟩)])) w := by kernel_rfl
theorem se_comparable (w : World) : (seComparable #[.agg #[.pointer (some ⟨2, 25, none⟩)]]).run Tryz.prog w = .ok (.bool true) w := by kernel_rfl
theorem se_mComparable (v : Value) (w : World) : (Go.method 434 244 v "Comparable").run Tryz.prog w = .ok (247, v) w := by kernel_rfl
theorem se_mUnwrapF (v : Value) (w : World) : (Go.method 434 181 v "Unwrap").run Tryz.prog w = .ok (241, v) w := by kernel_rfl
theorem se_noIsE (v : Value) (xT : TypeId) (w : World) : (Instr.typeAssert (.iface 25 v) xT 246 true).run Tryz.prog w = .ok (.tuple #[.nilIface, .bool false]) w := run_typeAssert_lacksB Tryz.underlying246 (by kernel_rfl) (by kernel_rfl) v xT w
theorem se_noIsF (v : Value) (xT : TypeId) (w : World) : (Instr.typeAssert (.iface 181 v) xT 246 true).run Tryz.prog w = .ok (.tuple #[.nilIface, .bool false]) w := run_typeAssert_lacksB Tryz.underlying246 (by kernel_rfl) (by kernel_rfl) v xT w
theorem se_noAsE (v : Value) (xT : TypeId) (w : World) : (Instr.typeAssert (.iface 25 v) xT 255 true).run Tryz.prog w = .ok (.tuple #[.nilIface, .bool false]) w := run_typeAssert_lacksB Tryz.underlying255 (by kernel_rfl) (by kernel_rfl) v xT w
theorem se_noAsF (v : Value) (xT : TypeId) (w : World) : (Instr.typeAssert (.iface 181 v) xT 255 true).run Tryz.prog w = .ok (.tuple #[.nilIface, .bool false]) w := run_typeAssert_lacksB Tryz.underlying255 (by kernel_rfl) (by kernel_rfl) v xT w
theorem se_noUnwrapE (v : Value) (xT : TypeId) (w : World) : (Instr.typeAssert (.iface 25 v) xT 248 true).run Tryz.prog w = .ok (.tuple #[.nilIface, .bool false]) w := run_typeAssert_lacksB Tryz.underlying248 (by kernel_rfl) (by kernel_rfl) v xT w
theorem se_noUnwrapsE (v : Value) (xT : TypeId) (w : World) : (Instr.typeAssert (.iface 25 v) xT 250 true).run Tryz.prog w = .ok (.tuple #[.nilIface, .bool false]) w := run_typeAssert_lacksB Tryz.underlying250 (by kernel_rfl) (by kernel_rfl) v xT w
theorem se_hasUnwrapF (v : Value) (xT : TypeId) (w : World) : (Instr.typeAssert (.iface 181 v) xT 248 true).run Tryz.prog w = .ok (.tuple #[.iface 181 v, .bool true]) w := run_typeAssert_hasB Tryz.underlying248 (by kernel_rfl) v xT w
theorem se_eqE (a b : Int) (w : World) : (binOp .eql 99 (.iface 25 (.int .i64 a)) (.iface 25 (.int .i64 b))).run Tryz.prog w = .ok (.bool (a == b)) w := Go.Lib.run_eql_iface_int w a b Tryz.underlying99 (by kernel_rfl) Tryz.underlying25
theorem se_eqF (v x : Value) (w : World) : (binOp .eql 99 (.iface 181 v) (.iface 25 x)).run Tryz.prog w = .ok (.bool false) w := run_eql_iface_types _ _ v x Tryz.underlying99 (by decide) w
theorem se_eqN (x : Value) (w : World) : (binOp .eql 99 .nilIface (.iface 25 x)).run Tryz.prog w = .ok (.bool false) w := run_eql_iface_nil_left w _ x Tryz.underlying99
theorem Is_nil (t : Int) (w : World) : Calls Tryz.prog 96 #[.nilIface, .iface 25 (.int .i64 t)] w fun e w' => e = .returned (.bool false) ∧ w = w' := by
  have hn := se_eqN
  go_enter Tryz.func96, Tryz.ntmps96
  go_wp2
  go_ret
  exact ⟨rfl, rfl⟩
theorem Is_failed (g : Nat) (e t : Int) (w : World) (h1 : w.cell? ⟨g, 0 + 1, none⟩ = some (.iface 25 (.int .i64 e))) :
    Calls Tryz.prog 96 #[.iface 181 (.pointer (some ⟨g, 0, none⟩)), .iface 25 (.int .i64 t)] w fun ev w' => ev = .returned (.bool (e == t)) ∧ w = w' := by
  have h8 := @run_callFunc_extern Tryz.prog 133 _ ReflectliteType.typeOf Tryz.func133 (by kernel_rfl) (by kernel_rfl) (by kernel_rfl) (by kernel_rfl)
  have h32 := @run_callFunc_extern Tryz.prog 247 _ seComparable Tryz.func247 (by kernel_rfl) (by kernel_rfl) (by kernel_rfl) (by kernel_rfl)
  have tT := se_typeOfE
  have cT := se_comparable
  have mR := se_mComparable
  have n1 := se_noIsE
  have n2 := se_noIsF
  have n3 := se_noUnwrapE
  have n4 := se_noUnwrapsE
  have n5 := se_hasUnwrapF
  have mU := se_mUnwrapF
  have q1 := se_eqE
  have q2 := se_eqF
  cases he : (e == t)
  all_goals
    go_enter Tryz.func96, Tryz.ntmps96
    go_wp2
    refine wp_loop_rounds 2 ?_
    rw [rounds_succ]
    go_wp2
    rw [rounds_succ]
    go_wp2
    go_ret
    exact ⟨rfl, rfl⟩
end Go.Proofs.YtfgbpinfplllgaaGreatDoor
