/- SWEPT -/
import Derived.Test.YtfgbpinfplllgaaGreatDoorZStErr
set_option linter.unusedVariables false
set_option linter.unusedSimpArgs false
namespace Go.Proofs.YtfgbpinfplllgaaGreatDoor
open Go.RowKit Go.Extern.Stop Go.Stop Go.Extern Go.Shelf
set_option maxRecDepth 100000
def saUnpack (args : Array Value) : Sem Value := ReflectliteValue.unpack (args.getD 0 (.tuple #[]))
def saType : Array Value → Sem Value := ReflectliteValue.methodAny (ReflectliteValue.valueError "reflectlite.Value.Type" 0) fun t _ _ _ => ReflectliteType.toType t
def saIsNil : Array Value → Sem Value := ReflectliteValue.method (ReflectliteValue.valueError "reflectlite.Value.IsNil" 0) ReflectliteValue.isNil
def saElemV : Array Value → Sem Value := ReflectliteValue.method (ReflectliteValue.valueError "reflectlite.Value.Elem" 0) ReflectliteValue.elem
def saSet : Array Value → Sem Value := ReflectliteValue.set
def saKind : Array Value → Sem Value := ReflectliteType.abiMethod fun t => do pure (.int .u8 (← Rtype.kind t))
def saElem : Array Value → Sem Value := ReflectliteType.method ReflectliteType.elem
def saImpl : Array Value → Sem Value := ReflectliteType.relation "Implements" ReflectliteType.implements_
def saAssign : Array Value → Sem Value := ReflectliteType.relation "AssignableTo" ReflectliteType.assignableTo
theorem sa_valueBB (t : Addr) (w : World) : (saUnpack #[.iface 156 (.pointer (some t))]).run Tryz.prog w
    = .ok (.agg #[.pointer (some ⟨2, 156, none⟩), .pointer (some ⟨w.heap.size, 0, none⟩), .int .u64 150]) (w.alloc (.cells #[.pointer (some t)] 156)) := by kernel_rfl
theorem sa_valueEE (t : Addr) (w : World) : (saUnpack #[.iface 157 (.pointer (some t))]).run Tryz.prog w
    = .ok (.agg #[.pointer (some ⟨2, 157, none⟩), .pointer (some ⟨w.heap.size, 0, none⟩), .int .u64 150]) (w.alloc (.cells #[.pointer (some t)] 157)) := by kernel_rfl
theorem sa_valueB (e : Addr) (w : World) : (saUnpack #[.iface 154 (.pointer (some e))]).run Tryz.prog w
    = .ok (.agg #[.pointer (some ⟨2, 154, none⟩), .pointer (some ⟨w.heap.size, 0, none⟩), .int .u64 150]) (w.alloc (.cells #[.pointer (some e)] 154)) := by kernel_rfl
theorem sa_valueE (e : Int) (w : World) : (saUnpack #[.iface 25 (.int .i64 e)]).run Tryz.prog w
    = .ok (.agg #[.pointer (some ⟨2, 25, none⟩), .pointer (some ⟨w.heap.size, 0, none⟩), .int .u64 130]) (w.alloc (.cells #[.int .i64 e] 25)) := by kernel_rfl
theorem sa_typeBB (a : Addr) (w : World) : (saType #[.agg #[.pointer (some ⟨2, 156, none⟩), .pointer (some a), .int .u64 150]]).run Tryz.prog w = .ok (.iface 244 (.agg #[.pointer (some ⟨2, 156, none⟩)])) w := by kernel_rfl
theorem sa_typeEE (a : Addr) (w : World) : (saType #[.agg #[.pointer (some ⟨2, 157, none⟩), .pointer (some a), .int .u64 150]]).run Tryz.prog w = .ok (.iface 244 (.agg #[.pointer (some ⟨2, 157, none⟩)])) w := by kernel_rfl
theorem sa_mKind (h : Value) (w : World) : (Go.method 434 244 (.agg #[h]) "Kind").run Tryz.prog w = .ok (232, h) w := by kernel_rfl
theorem sa_mElem (h : Value) (w : World) : (Go.method 434 244 (.agg #[h]) "Elem").run Tryz.prog w = .ok (248, .agg #[h]) w := by kernel_rfl
theorem sa_mImpl (h : Value) (w : World) : (Go.method 434 244 (.agg #[h]) "Implements").run Tryz.prog w = .ok (249, .agg #[h]) w := by kernel_rfl
theorem sa_mAssign (h : Value) (w : World) : (Go.method 434 244 (.agg #[h]) "AssignableTo").run Tryz.prog w = .ok (246, .agg #[h]) w := by kernel_rfl
theorem sa_kindBB (w : World) : (saKind #[.pointer (some ⟨2, 156, none⟩)]).run Tryz.prog w = .ok (.int .u8 22) w := by kernel_rfl
theorem sa_kindEE (w : World) : (saKind #[.pointer (some ⟨2, 157, none⟩)]).run Tryz.prog w = .ok (.int .u8 22) w := by kernel_rfl
theorem sa_kindB (w : World) : (saKind #[.pointer (some ⟨2, 154, none⟩)]).run Tryz.prog w = .ok (.int .u8 22) w := by kernel_rfl
theorem sa_kindE (w : World) : (saKind #[.pointer (some ⟨2, 25, none⟩)]).run Tryz.prog w = .ok (.int .u8 2) w := by kernel_rfl
theorem sa_elemBB (w : World) : (saElem #[.agg #[.pointer (some ⟨2, 156, none⟩)]]).run Tryz.prog w = .ok (.iface 244 (.agg #[.pointer (some ⟨2, 154, none⟩)])) w := by kernel_rfl
theorem sa_elemEE (w : World) : (saElem #[.agg #[.pointer (some ⟨2, 157, none⟩)]]).run Tryz.prog w = .ok (.iface 244 (.agg #[.pointer (some ⟨2, 25, none⟩)])) w := by kernel_rfl
theorem sa_implB (w : World) : (saImpl #[.agg #[.pointer (some ⟨2, 154, none⟩)], .iface 244 (.agg #[.pointer (some ⟨2, 99, none⟩)])]).run Tryz.prog w = .ok (.bool true) w := by kernel_rfl
theorem sa_implE (w : World) : (saImpl #[.agg #[.pointer (some ⟨2, 25, none⟩)], .iface 244 (.agg #[.pointer (some ⟨2, 99, none⟩)])]).run Tryz.prog w = .ok (.bool true) w := by kernel_rfl
theorem sa_typeOfE (v : Value) (w : World) : (ReflectliteType.typeOf #[.iface 25 v]).run Tryz.prog w = .ok (.iface 244 (.agg #[.pointer (some ⟨2, 25, none⟩)])) w := by kernel_rfl
theorem sa_typeOfF (v : Value) (w : World) : (ReflectliteType.typeOf #[.iface 181 v]).run Tryz.prog w = .ok (.iface 244 (.agg #[.pointer (some ⟨2, 181, none⟩)])) w := by kernel_rfl
theorem sa_typeOfB (v : Value) (w : World) : (ReflectliteType.typeOf #[.iface 154 v]).run Tryz.prog w = .ok (.iface 244 (.agg #[.pointer (some ⟨2, 154, none⟩)])) w := by kernel_rfl
theorem sa_asFB (w : World) : (saAssign #[.agg #[.pointer (some ⟨2, 181, none⟩)], .iface 244 (.agg #[.pointer (some ⟨2, 154, none⟩)])]).run Tryz.prog w = .ok (.bool false) w := by kernel_rfl
theorem sa_asEB (w : World) : (saAssign #[.agg #[.pointer (some ⟨2, 25, none⟩)], .iface 244 (.agg #[.pointer (some ⟨2, 154, none⟩)])]).run Tryz.prog w = .ok (.bool false) w := by kernel_rfl
theorem sa_asBB (w : World) : (saAssign #[.agg #[.pointer (some ⟨2, 154, none⟩)], .iface 244 (.agg #[.pointer (some ⟨2, 154, none⟩)])]).run Tryz.prog w = .ok (.bool true) w := by kernel_rfl
theorem sa_asFE (w : World) : (saAssign #[.agg #[.pointer (some ⟨2, 181, none⟩)], .iface 244 (.agg #[.pointer (some ⟨2, 25, none⟩)])]).run Tryz.prog w = .ok (.bool false) w := by kernel_rfl
theorem sa_asEE (w : World) : (saAssign #[.agg #[.pointer (some ⟨2, 25, none⟩)], .iface 244 (.agg #[.pointer (some ⟨2, 25, none⟩)])]).run Tryz.prog w = .ok (.bool true) w := by kernel_rfl
theorem sa_m (z : Sem Value) (f : TypeId → Addr → Nat → Nat → Sem Value) (v : Value) :
    ReflectliteValue.method z f #[v] = (do match ← ReflectliteValue.parts v with | none => z | some (t, a, fl) => f t a fl (fl % 32)) := rfl
theorem sa_partsBB (a : Addr) (w : World) : (ReflectliteValue.parts (.agg #[.pointer (some ⟨2, 156, none⟩), .pointer (some a), .int .u64 150])).run Tryz.prog w = .ok (some (156, a, 150)) w := by kernel_rfl
theorem sa_partsEE (a : Addr) (w : World) : (ReflectliteValue.parts (.agg #[.pointer (some ⟨2, 157, none⟩), .pointer (some a), .int .u64 150])).run Tryz.prog w = .ok (some (157, a, 150)) w := by kernel_rfl
theorem sa_isNilBB (a p : Addr) (W : World) (ha : W.cell? a = some (.pointer (some p))) : (saIsNil #[.agg #[.pointer (some ⟨2, 156, none⟩), .pointer (some a), .int .u64 150]]).run Tryz.prog W = .ok (.bool false) W := by
  unfold saIsNil
  rw [sa_m]
  simp only [Sem.run_bind, sa_partsBB, Result.andThen]
  simp [ReflectliteValue.isNil, loadVar, isAgg, underlying, Tryz.underlying156, ha, Result.andThen]
theorem sa_isNilEE (a p : Addr) (W : World) (ha : W.cell? a = some (.pointer (some p))) : (saIsNil #[.agg #[.pointer (some ⟨2, 157, none⟩), .pointer (some a), .int .u64 150]]).run Tryz.prog W = .ok (.bool false) W := by
  unfold saIsNil
  rw [sa_m]
  simp only [Sem.run_bind, sa_partsEE, Result.andThen]
  simp [ReflectliteValue.isNil, loadVar, isAgg, underlying, Tryz.underlying157, ha, Result.andThen]
theorem sa_elemOfBB (w : World) : (Rtype.elem? 156).run Tryz.prog w = .ok (some 154) w := by kernel_rfl
theorem sa_elemOfEE (w : World) : (Rtype.elem? 157).run Tryz.prog w = .ok (some 25) w := by kernel_rfl
theorem sa_mkB (p : Addr) (w : World) : (ReflectliteValue.mk 154 p ReflectliteValue.flagAddr).run Tryz.prog w = .ok (.agg #[.pointer (some ⟨2, 154, none⟩), .pointer (some p), .int .u64 406]) w := by kernel_rfl
theorem sa_mkE (p : Addr) (w : World) : (ReflectliteValue.mk 25 p ReflectliteValue.flagAddr).run Tryz.prog w = .ok (.agg #[.pointer (some ⟨2, 25, none⟩), .pointer (some p), .int .u64 386]) w := by kernel_rfl
theorem sa_elemVBB (a p : Addr) (W : World) (ha : W.cell? a = some (.pointer (some p))) : (saElemV #[.agg #[.pointer (some ⟨2, 156, none⟩), .pointer (some a), .int .u64 150]]).run Tryz.prog W = .ok (.agg #[.pointer (some ⟨2, 154, none⟩), .pointer (some p), .int .u64 406]) W := by
  unfold saElemV
  rw [sa_m]
  simp only [Sem.run_bind, sa_partsBB, Result.andThen]
  simp [ReflectliteValue.elem, loadVar, isAgg, underlying, Tryz.underlying156, ha, Result.andThen, sa_elemOfBB, sa_mkB]
theorem sa_elemVEE (a p : Addr) (W : World) (ha : W.cell? a = some (.pointer (some p))) : (saElemV #[.agg #[.pointer (some ⟨2, 157, none⟩), .pointer (some a), .int .u64 150]]).run Tryz.prog W = .ok (.agg #[.pointer (some ⟨2, 25, none⟩), .pointer (some p), .int .u64 386]) W := by
  unfold saElemV
  rw [sa_m]
  simp only [Sem.run_bind, sa_partsEE, Result.andThen]
  simp [ReflectliteValue.elem, loadVar, isAgg, underlying, Tryz.underlying157, ha, Result.andThen, sa_elemOfEE, sa_mkE]
theorem sa_s (v x : Value) : ReflectliteValue.set #[v, x] = (do
    let (some (dst, a, fl), some (src, b, _)) := (← ReflectliteValue.parts v, ← ReflectliteValue.parts x)
      | unsupported (.noEntry "extern/(internal/reflectlite.Value).Set.zeroValue")
    if fl / ReflectliteValue.flagAddr % 2 == 0 then unsupported (.noEntry "extern/(internal/reflectlite.Value).Set.unaddressable")
    let val ← loadVar src b
    if ← Rtype.directlyAssignable dst src then storeVar dst a val
    else if ← Rtype.implements dst src then
      if (← Rtype.kind src) == 20 then
        match val with
        | .nilIface => unsupported (.noEntry "extern/reflectlite: a nil value of one interface type handed on as a value of another")
        | _ => storeVar dst a val
      else storeVar dst a (.iface src val)
    else panicString ("reflectlite.Set: value of type " ++ (← Rtype.spelt src) ++ " is not assignable to type " ++ (← Rtype.spelt dst))
    pure (.tuple #[])) := rfl
theorem sa_partsBa (a : Addr) (w : World) : (ReflectliteValue.parts (.agg #[.pointer (some ⟨2, 154, none⟩), .pointer (some a), .int .u64 406])).run Tryz.prog w = .ok (some (154, a, 406)) w := by kernel_rfl
theorem sa_partsB (a : Addr) (w : World) : (ReflectliteValue.parts (.agg #[.pointer (some ⟨2, 154, none⟩), .pointer (some a), .int .u64 150])).run Tryz.prog w = .ok (some (154, a, 150)) w := by kernel_rfl
theorem sa_partsEa (a : Addr) (w : World) : (ReflectliteValue.parts (.agg #[.pointer (some ⟨2, 25, none⟩), .pointer (some a), .int .u64 386])).run Tryz.prog w = .ok (some (25, a, 386)) w := by kernel_rfl
theorem sa_partsE (a : Addr) (w : World) : (ReflectliteValue.parts (.agg #[.pointer (some ⟨2, 25, none⟩), .pointer (some a), .int .u64 130])).run Tryz.prog w = .ok (some (25, a, 130)) w := by kernel_rfl
theorem sa_dirB (w : World) : (Rtype.directlyAssignable 154 154).run Tryz.prog w = .ok true w := by kernel_rfl
theorem sa_dirE (w : World) : (Rtype.directlyAssignable 25 25).run Tryz.prog w = .ok true w := by kernel_rfl
theorem sa_setB (ta b e : Addr) (old : Value) (W : World) (hb : W.cell? b = some (.pointer (some e))) (ht : W.cell? ta = some old) (hf : W.frozen? ta = false) :
    (saSet #[.agg #[.pointer (some ⟨2, 154, none⟩), .pointer (some ta), .int .u64 406], .agg #[.pointer (some ⟨2, 154, none⟩), .pointer (some b), .int .u64 150]]).run Tryz.prog W = .ok (.tuple #[]) (W.setCell ta (.pointer (some e))) := by
  unfold saSet
  rw [sa_s]
  simp only [Sem.run_bind, sa_partsBa, sa_partsB, Result.andThen]
  simp [ReflectliteValue.flagAddr, loadVar, isAgg, underlying, Tryz.underlying154, hb, Result.andThen, sa_dirB, storeVar, Value.cells, storeCells, Addr.add]
  rw [run_store Tryz.prog W ta _ _ (by rfl)]
  simp [ht, hf]
theorem sa_setE (ta b : Addr) (e : Int) (old : Value) (W : World) (hb : W.cell? b = some (.int .i64 e)) (ht : W.cell? ta = some old) (hf : W.frozen? ta = false) :
    (saSet #[.agg #[.pointer (some ⟨2, 25, none⟩), .pointer (some ta), .int .u64 386], .agg #[.pointer (some ⟨2, 25, none⟩), .pointer (some b), .int .u64 130]]).run Tryz.prog W = .ok (.tuple #[]) (W.setCell ta (.int .i64 e)) := by
  unfold saSet
  rw [sa_s]
  simp only [Sem.run_bind, sa_partsEa, sa_partsE, Result.andThen]
  simp [ReflectliteValue.flagAddr, loadVar, isAgg, underlying, Tryz.underlying25, hb, Result.andThen, sa_dirE, storeVar, Value.cells, storeCells, Addr.add]
  rw [run_store Tryz.prog W ta _ _ (by rfl)]
  simp [ht, hf]
end Go.Proofs.YtfgbpinfplllgaaGreatDoor
