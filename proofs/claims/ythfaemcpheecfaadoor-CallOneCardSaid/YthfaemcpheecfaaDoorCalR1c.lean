/- The reference: a call with the fields that its row names alone. -/
import Derived.Test.YthfaemcpheecfaaDoorCalR1
namespace Go.Proofs.YthfaemcpheecfaaDoor
open Go.RowKit Go.Shelf
set_option linter.unusedVariables false
set_option maxRecDepth 100000
set_option linter.unusedSimpArgs false

set_option maxHeartbeats 16000000 in
theorem only_9 (c1 c2 c3 c5 c6 : Nat) (c7 : ByteArray) (c8 c9 : Nat) (c10 : ByteArray) (c11 c12 : Nat) (c13 : List UInt8) (A : Option Addr) (n cp : Nat) (w : World) : Calls Tryd.prog 37 #[.agg (calCells (CX c1 c2 c3 9 c5 c6 c7 c8 c9 c10 c11 c12 c13) (.slice A n cp)).toArray] w fun e w' => e = .returned (.tuple #[.agg (calCells (onlyX (CX c1 c2 c3 9 c5 c6 c7 c8 c9 c10 c11 c12 c13)) (onlyV (CX c1 c2 c3 9 c5 c6 c7 c8 c9 c10 c11 c12 c13) (.slice A n cp))).toArray, .bool true]) ∧ Below w.heap.size w w' := by
  change Calls Tryd.prog _ #[.agg #[.int .u8 (c1 : Int), .int .u32 (c2 : Int), .int .u64 (c3 : Int), .int .u8 9, .int .u32 (c5 : Int), .int .u32 (c6 : Int), .string c7, .int .u32 (c8 : Int), .int .u32 (c9 : Int), .string c10, .int .u32 (c11 : Int), .int .u32 (c12 : Int), .slice A n cp]] w _
  go_enter Tryd.func37, Tryd.ntmps37
  go_wp2_with fail
  refine cal_end (g := w.heap.size + 1) (cs := [_, _, _, _, _, _, _, _, _, _, _, _, _]) rfl rfl ?_ rfl rfl ⟨rfl, ?_⟩
  · exact cs_mid _ _ _ _ _
  · exact below_new3 _ _ _ _
set_option maxHeartbeats 16000000 in
theorem only_10 (c1 c2 c3 c5 c6 : Nat) (c7 : ByteArray) (c8 c9 : Nat) (c10 : ByteArray) (c11 c12 : Nat) (c13 : List UInt8) (A : Option Addr) (n cp : Nat) (w : World) : Calls Tryd.prog 37 #[.agg (calCells (CX c1 c2 c3 10 c5 c6 c7 c8 c9 c10 c11 c12 c13) (.slice A n cp)).toArray] w fun e w' => e = .returned (.tuple #[.agg (calCells (onlyX (CX c1 c2 c3 10 c5 c6 c7 c8 c9 c10 c11 c12 c13)) (onlyV (CX c1 c2 c3 10 c5 c6 c7 c8 c9 c10 c11 c12 c13) (.slice A n cp))).toArray, .bool true]) ∧ Below w.heap.size w w' := by
  change Calls Tryd.prog _ #[.agg #[.int .u8 (c1 : Int), .int .u32 (c2 : Int), .int .u64 (c3 : Int), .int .u8 10, .int .u32 (c5 : Int), .int .u32 (c6 : Int), .string c7, .int .u32 (c8 : Int), .int .u32 (c9 : Int), .string c10, .int .u32 (c11 : Int), .int .u32 (c12 : Int), .slice A n cp]] w _
  go_enter Tryd.func37, Tryd.ntmps37
  go_wp2_with fail
  refine cal_end (g := w.heap.size + 1) (cs := [_, _, _, _, _, _, _, _, _, _, _, _, _]) rfl rfl ?_ rfl rfl ⟨rfl, ?_⟩
  · exact cs_mid _ _ _ _ _
  · exact below_new3 _ _ _ _
set_option maxHeartbeats 16000000 in
theorem only_11 (c1 c2 c3 c5 c6 : Nat) (c7 : ByteArray) (c8 c9 : Nat) (c10 : ByteArray) (c11 c12 : Nat) (c13 : List UInt8) (A : Option Addr) (n cp : Nat) (w : World) : Calls Tryd.prog 37 #[.agg (calCells (CX c1 c2 c3 11 c5 c6 c7 c8 c9 c10 c11 c12 c13) (.slice A n cp)).toArray] w fun e w' => e = .returned (.tuple #[.agg (calCells (onlyX (CX c1 c2 c3 11 c5 c6 c7 c8 c9 c10 c11 c12 c13)) (onlyV (CX c1 c2 c3 11 c5 c6 c7 c8 c9 c10 c11 c12 c13) (.slice A n cp))).toArray, .bool true]) ∧ Below w.heap.size w w' := by
  change Calls Tryd.prog _ #[.agg #[.int .u8 (c1 : Int), .int .u32 (c2 : Int), .int .u64 (c3 : Int), .int .u8 11, .int .u32 (c5 : Int), .int .u32 (c6 : Int), .string c7, .int .u32 (c8 : Int), .int .u32 (c9 : Int), .string c10, .int .u32 (c11 : Int), .int .u32 (c12 : Int), .slice A n cp]] w _
  go_enter Tryd.func37, Tryd.ntmps37
  go_wp2_with fail
  refine cal_end (g := w.heap.size + 1) (cs := [_, _, _, _, _, _, _, _, _, _, _, _, _]) rfl rfl ?_ rfl rfl ⟨rfl, ?_⟩
  · exact cs_mid _ _ _ _ _
  · exact below_new3 _ _ _ _
set_option maxHeartbeats 16000000 in
theorem only_12 (c1 c2 c3 c5 c6 : Nat) (c7 : ByteArray) (c8 c9 : Nat) (c10 : ByteArray) (c11 c12 : Nat) (c13 : List UInt8) (A : Option Addr) (n cp : Nat) (w : World) : Calls Tryd.prog 37 #[.agg (calCells (CX c1 c2 c3 12 c5 c6 c7 c8 c9 c10 c11 c12 c13) (.slice A n cp)).toArray] w fun e w' => e = .returned (.tuple #[.agg (calCells (onlyX (CX c1 c2 c3 12 c5 c6 c7 c8 c9 c10 c11 c12 c13)) (onlyV (CX c1 c2 c3 12 c5 c6 c7 c8 c9 c10 c11 c12 c13) (.slice A n cp))).toArray, .bool true]) ∧ Below w.heap.size w w' := by
  change Calls Tryd.prog _ #[.agg #[.int .u8 (c1 : Int), .int .u32 (c2 : Int), .int .u64 (c3 : Int), .int .u8 12, .int .u32 (c5 : Int), .int .u32 (c6 : Int), .string c7, .int .u32 (c8 : Int), .int .u32 (c9 : Int), .string c10, .int .u32 (c11 : Int), .int .u32 (c12 : Int), .slice A n cp]] w _
  go_enter Tryd.func37, Tryd.ntmps37
  go_wp2_with fail
  refine cal_end (g := w.heap.size + 1) (cs := [_, _, _, _, _, _, _, _, _, _, _, _, _]) rfl rfl ?_ rfl rfl ⟨rfl, ?_⟩
  · exact cs_mid _ _ _ _ _
  · exact below_new3 _ _ _ _
set_option maxHeartbeats 16000000 in
theorem only_no (c : CallX) (h : kindX c.kind = false) (A : Option Addr) (n cp : Nat) (w : World) : Calls Tryd.prog 37 #[.agg (calCells c (.slice A n cp)).toArray] w fun e w' => e = .returned (.tuple #[.agg (calCells calZero (.slice none 0 0)).toArray, .bool false]) ∧ Below w.heap.size w w' := by
  have e1 := kind_ne c.kind h 1 (by decide) (by decide)
  have e2 := kind_ne c.kind h 2 (by decide) (by decide)
  have e3 := kind_ne c.kind h 3 (by decide) (by decide)
  have e4 := kind_ne c.kind h 4 (by decide) (by decide)
  have e5 := kind_ne c.kind h 5 (by decide) (by decide)
  have e6 := kind_ne c.kind h 6 (by decide) (by decide)
  have e7 := kind_ne c.kind h 7 (by decide) (by decide)
  have e8 := kind_ne c.kind h 8 (by decide) (by decide)
  have e9 := kind_ne c.kind h 9 (by decide) (by decide)
  have e10 := kind_ne c.kind h 10 (by decide) (by decide)
  have e11 := kind_ne c.kind h 11 (by decide) (by decide)
  have e12 := kind_ne c.kind h 12 (by decide) (by decide)
  clear h
  unfold calCells
  go_enter Tryd.func37, Tryd.ntmps37
  go_wp2_with fail
  refine cal_end (g := w.heap.size + 1) (cs := [_, _, _, _, _, _, _, _, _, _, _, _, _]) rfl rfl ?_ rfl rfl ⟨rfl, ?_⟩
  · exact cs_mid _ _ _ _ _
  · exact below_new3 _ _ _ _

end Go.Proofs.YthfaemcpheecfaaDoor
