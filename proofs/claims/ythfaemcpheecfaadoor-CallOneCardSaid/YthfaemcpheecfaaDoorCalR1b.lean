/- The reference: a call with the fields that its row names alone. -/
import Derived.Test.YthfaemcpheecfaaDoorCalR1
namespace Go.Proofs.YthfaemcpheecfaaDoor
open Go.RowKit Go.Shelf
set_option linter.unusedVariables false
set_option maxRecDepth 100000
set_option linter.unusedSimpArgs false

set_option maxHeartbeats 16000000 in
theorem only_5 (c1 c2 c3 c5 c6 : Nat) (c7 : ByteArray) (c8 c9 : Nat) (c10 : ByteArray) (c11 c12 : Nat) (c13 : List UInt8) (A : Option Addr) (n cp : Nat) (w : World) : Calls Tryd.prog 37 #[.agg (calCells (CX c1 c2 c3 5 c5 c6 c7 c8 c9 c10 c11 c12 c13) (.slice A n cp)).toArray] w fun e w' => e = .returned (.tuple #[.agg (calCells (onlyX (CX c1 c2 c3 5 c5 c6 c7 c8 c9 c10 c11 c12 c13)) (onlyV (CX c1 c2 c3 5 c5 c6 c7 c8 c9 c10 c11 c12 c13) (.slice A n cp))).toArray, .bool true]) ∧ Below w.heap.size w w' := by
  change Calls Tryd.prog _ #[.agg #[.int .u8 (c1 : Int), .int .u32 (c2 : Int), .int .u64 (c3 : Int), .int .u8 5, .int .u32 (c5 : Int), .int .u32 (c6 : Int), .string c7, .int .u32 (c8 : Int), .int .u32 (c9 : Int), .string c10, .int .u32 (c11 : Int), .int .u32 (c12 : Int), .slice A n cp]] w _
  go_enter Tryd.func37, Tryd.ntmps37
  go_wp2_with fail
  refine cal_end (g := w.heap.size + 1) (cs := [_, _, _, _, _, _, _, _, _, _, _, _, _]) rfl rfl ?_ rfl rfl ⟨rfl, ?_⟩
  · exact cs_mid _ _ _ _ _
  · exact below_new3 _ _ _ _
set_option maxHeartbeats 16000000 in
theorem only_6 (c1 c2 c3 c5 c6 : Nat) (c7 : ByteArray) (c8 c9 : Nat) (c10 : ByteArray) (c11 c12 : Nat) (c13 : List UInt8) (A : Option Addr) (n cp : Nat) (w : World) : Calls Tryd.prog 37 #[.agg (calCells (CX c1 c2 c3 6 c5 c6 c7 c8 c9 c10 c11 c12 c13) (.slice A n cp)).toArray] w fun e w' => e = .returned (.tuple #[.agg (calCells (onlyX (CX c1 c2 c3 6 c5 c6 c7 c8 c9 c10 c11 c12 c13)) (onlyV (CX c1 c2 c3 6 c5 c6 c7 c8 c9 c10 c11 c12 c13) (.slice A n cp))).toArray, .bool true]) ∧ Below w.heap.size w w' := by
  change Calls Tryd.prog _ #[.agg #[.int .u8 (c1 : Int), .int .u32 (c2 : Int), .int .u64 (c3 : Int), .int .u8 6, .int .u32 (c5 : Int), .int .u32 (c6 : Int), .string c7, .int .u32 (c8 : Int), .int .u32 (c9 : Int), .string c10, .int .u32 (c11 : Int), .int .u32 (c12 : Int), .slice A n cp]] w _
  go_enter Tryd.func37, Tryd.ntmps37
  go_wp2_with fail
  refine cal_end (g := w.heap.size + 1) (cs := [_, _, _, _, _, _, _, _, _, _, _, _, _]) rfl rfl ?_ rfl rfl ⟨rfl, ?_⟩
  · exact cs_mid _ _ _ _ _
  · exact below_new3 _ _ _ _
set_option maxHeartbeats 16000000 in
theorem only_7 (c1 c2 c3 c5 c6 : Nat) (c7 : ByteArray) (c8 c9 : Nat) (c10 : ByteArray) (c11 c12 : Nat) (c13 : List UInt8) (A : Option Addr) (n cp : Nat) (w : World) : Calls Tryd.prog 37 #[.agg (calCells (CX c1 c2 c3 7 c5 c6 c7 c8 c9 c10 c11 c12 c13) (.slice A n cp)).toArray] w fun e w' => e = .returned (.tuple #[.agg (calCells (onlyX (CX c1 c2 c3 7 c5 c6 c7 c8 c9 c10 c11 c12 c13)) (onlyV (CX c1 c2 c3 7 c5 c6 c7 c8 c9 c10 c11 c12 c13) (.slice A n cp))).toArray, .bool true]) ∧ Below w.heap.size w w' := by
  change Calls Tryd.prog _ #[.agg #[.int .u8 (c1 : Int), .int .u32 (c2 : Int), .int .u64 (c3 : Int), .int .u8 7, .int .u32 (c5 : Int), .int .u32 (c6 : Int), .string c7, .int .u32 (c8 : Int), .int .u32 (c9 : Int), .string c10, .int .u32 (c11 : Int), .int .u32 (c12 : Int), .slice A n cp]] w _
  go_enter Tryd.func37, Tryd.ntmps37
  go_wp2_with fail
  refine cal_end (g := w.heap.size + 1) (cs := [_, _, _, _, _, _, _, _, _, _, _, _, _]) rfl rfl ?_ rfl rfl ⟨rfl, ?_⟩
  · exact cs_mid _ _ _ _ _
  · exact below_new3 _ _ _ _
set_option maxHeartbeats 16000000 in
theorem only_8 (c1 c2 c3 c5 c6 : Nat) (c7 : ByteArray) (c8 c9 : Nat) (c10 : ByteArray) (c11 c12 : Nat) (c13 : List UInt8) (A : Option Addr) (n cp : Nat) (w : World) : Calls Tryd.prog 37 #[.agg (calCells (CX c1 c2 c3 8 c5 c6 c7 c8 c9 c10 c11 c12 c13) (.slice A n cp)).toArray] w fun e w' => e = .returned (.tuple #[.agg (calCells (onlyX (CX c1 c2 c3 8 c5 c6 c7 c8 c9 c10 c11 c12 c13)) (onlyV (CX c1 c2 c3 8 c5 c6 c7 c8 c9 c10 c11 c12 c13) (.slice A n cp))).toArray, .bool true]) ∧ Below w.heap.size w w' := by
  change Calls Tryd.prog _ #[.agg #[.int .u8 (c1 : Int), .int .u32 (c2 : Int), .int .u64 (c3 : Int), .int .u8 8, .int .u32 (c5 : Int), .int .u32 (c6 : Int), .string c7, .int .u32 (c8 : Int), .int .u32 (c9 : Int), .string c10, .int .u32 (c11 : Int), .int .u32 (c12 : Int), .slice A n cp]] w _
  go_enter Tryd.func37, Tryd.ntmps37
  go_wp2_with fail
  refine cal_end (g := w.heap.size + 1) (cs := [_, _, _, _, _, _, _, _, _, _, _, _, _]) rfl rfl ?_ rfl rfl ⟨rfl, ?_⟩
  · exact cs_mid _ _ _ _ _
  · exact below_new3 _ _ _ _

end Go.Proofs.YthfaemcpheecfaaDoor
