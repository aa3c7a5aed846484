/- The reference: a call with the fields that its row names alone. -/
import Derived.Test.YthfaemcpheecfaaDoorCalR3
import Derived.Test.YthfaemcpheecfaaDoorNameRefIs
namespace Go.Proofs.YthfaemcpheecfaaDoor
open Go.RowKit Go.Shelf
set_option linter.unusedVariables false
set_option maxRecDepth 100000
set_option linter.unusedSimpArgs false

/-- a call with the fields that its row names alone -/
def onlyX (c : CallX) : CallX :=
  if kindX c.kind = false then calZero
  else if c.kind = 2 then { calZero with client := c.client, inc := c.inc, seq := c.seq, kind := c.kind, ino := c.ino, gen := c.gen, size := c.size }
  else if c.kind = 3 ∨ c.kind = 7 ∨ c.kind = 8 ∨ c.kind = 9 ∨ c.kind = 10 then { calZero with client := c.client, inc := c.inc, seq := c.seq, kind := c.kind, ino := c.ino, gen := c.gen, name := c.name }
  else if c.kind = 4 then { calZero with client := c.client, inc := c.inc, seq := c.seq, kind := c.kind, ino := c.ino, gen := c.gen, off := c.off, size := c.size }
  else if c.kind = 5 then { calZero with client := c.client, inc := c.inc, seq := c.seq, kind := c.kind, ino := c.ino, gen := c.gen, off := c.off, data := c.data }
  else if c.kind = 11 then { calZero with client := c.client, inc := c.inc, seq := c.seq, kind := c.kind, ino := c.ino, gen := c.gen, name := c.name, tino := c.tino, tgen := c.tgen, toname := c.toname }
  else { calZero with client := c.client, inc := c.inc, seq := c.seq, kind := c.kind, ino := c.ino, gen := c.gen }
/-- where its bytes lie -/
def onlyV (c : CallX) (v : Value) : Value := if c.kind = 5 then v else .slice none 0 0
theorem cs_mid (w : World) (o o' : Obj) (t : TypeId) (cs : Array Value) : Cs (((w.alloc o).alloc (.cells cs t)).alloc o') (w.heap.size + 1) t cs := by
  have h := (Cs.new (w.alloc o) t cs).alloc o'
  rwa [World.size_alloc] at h
theorem cs_end (w : World) (o : Obj) (t : TypeId) (cs : Array Value) : Cs ((w.alloc o).alloc (.cells cs t)) (w.heap.size + 1) t cs := by
  have h := Cs.new (w.alloc o) t cs
  rwa [World.size_alloc] at h
theorem below_new2 (w : World) (o p : Obj) : Below w.heap.size w ((w.alloc o).alloc p) := below_chain (below_new1 w o) (below_new1 _ p)
theorem below_new3 (w : World) (o p q : Obj) : Below w.heap.size w (((w.alloc o).alloc p).alloc q) := below_chain (below_new2 w o p) (below_new1 _ q)
def CX (c1 c2 c3 k c5 c6 : Nat) (c7 : ByteArray) (c8 c9 : Nat) (c10 : ByteArray) (c11 c12 : Nat) (c13 : List UInt8) : CallX := ⟨c1, c2, c3, k, c5, c6, c7, c8, c9, c10, c11, c12, c13⟩
set_option maxHeartbeats 16000000 in
theorem only_1 (c1 c2 c3 c5 c6 : Nat) (c7 : ByteArray) (c8 c9 : Nat) (c10 : ByteArray) (c11 c12 : Nat) (c13 : List UInt8) (A : Option Addr) (n cp : Nat) (w : World) : Calls Tryd.prog 37 #[.agg (calCells (CX c1 c2 c3 1 c5 c6 c7 c8 c9 c10 c11 c12 c13) (.slice A n cp)).toArray] w fun e w' => e = .returned (.tuple #[.agg (calCells (onlyX (CX c1 c2 c3 1 c5 c6 c7 c8 c9 c10 c11 c12 c13)) (onlyV (CX c1 c2 c3 1 c5 c6 c7 c8 c9 c10 c11 c12 c13) (.slice A n cp))).toArray, .bool true]) ∧ Below w.heap.size w w' := by
  change Calls Tryd.prog _ #[.agg #[.int .u8 (c1 : Int), .int .u32 (c2 : Int), .int .u64 (c3 : Int), .int .u8 1, .int .u32 (c5 : Int), .int .u32 (c6 : Int), .string c7, .int .u32 (c8 : Int), .int .u32 (c9 : Int), .string c10, .int .u32 (c11 : Int), .int .u32 (c12 : Int), .slice A n cp]] w _
  go_enter Tryd.func37, Tryd.ntmps37
  go_wp2_with fail
  refine cal_end (g := w.heap.size + 1) (cs := [_, _, _, _, _, _, _, _, _, _, _, _, _]) rfl rfl ?_ rfl rfl ⟨rfl, ?_⟩
  · exact cs_mid _ _ _ _ _
  · exact below_new3 _ _ _ _
set_option maxHeartbeats 16000000 in
theorem only_2 (c1 c2 c3 c5 c6 : Nat) (c7 : ByteArray) (c8 c9 : Nat) (c10 : ByteArray) (c11 c12 : Nat) (c13 : List UInt8) (A : Option Addr) (n cp : Nat) (w : World) : Calls Tryd.prog 37 #[.agg (calCells (CX c1 c2 c3 2 c5 c6 c7 c8 c9 c10 c11 c12 c13) (.slice A n cp)).toArray] w fun e w' => e = .returned (.tuple #[.agg (calCells (onlyX (CX c1 c2 c3 2 c5 c6 c7 c8 c9 c10 c11 c12 c13)) (onlyV (CX c1 c2 c3 2 c5 c6 c7 c8 c9 c10 c11 c12 c13) (.slice A n cp))).toArray, .bool true]) ∧ Below w.heap.size w w' := by
  change Calls Tryd.prog _ #[.agg #[.int .u8 (c1 : Int), .int .u32 (c2 : Int), .int .u64 (c3 : Int), .int .u8 2, .int .u32 (c5 : Int), .int .u32 (c6 : Int), .string c7, .int .u32 (c8 : Int), .int .u32 (c9 : Int), .string c10, .int .u32 (c11 : Int), .int .u32 (c12 : Int), .slice A n cp]] w _
  go_enter Tryd.func37, Tryd.ntmps37
  go_wp2_with fail
  refine cal_end (g := w.heap.size + 1) (cs := [_, _, _, _, _, _, _, _, _, _, _, _, _]) rfl rfl ?_ rfl rfl ⟨rfl, ?_⟩
  · exact cs_mid _ _ _ _ _
  · exact below_new3 _ _ _ _
set_option maxHeartbeats 16000000 in
theorem only_3 (c1 c2 c3 c5 c6 : Nat) (c7 : ByteArray) (c8 c9 : Nat) (c10 : ByteArray) (c11 c12 : Nat) (c13 : List UInt8) (A : Option Addr) (n cp : Nat) (w : World) : Calls Tryd.prog 37 #[.agg (calCells (CX c1 c2 c3 3 c5 c6 c7 c8 c9 c10 c11 c12 c13) (.slice A n cp)).toArray] w fun e w' => e = .returned (.tuple #[.agg (calCells (onlyX (CX c1 c2 c3 3 c5 c6 c7 c8 c9 c10 c11 c12 c13)) (onlyV (CX c1 c2 c3 3 c5 c6 c7 c8 c9 c10 c11 c12 c13) (.slice A n cp))).toArray, .bool true]) ∧ Below w.heap.size w w' := by
  change Calls Tryd.prog _ #[.agg #[.int .u8 (c1 : Int), .int .u32 (c2 : Int), .int .u64 (c3 : Int), .int .u8 3, .int .u32 (c5 : Int), .int .u32 (c6 : Int), .string c7, .int .u32 (c8 : Int), .int .u32 (c9 : Int), .string c10, .int .u32 (c11 : Int), .int .u32 (c12 : Int), .slice A n cp]] w _
  go_enter Tryd.func37, Tryd.ntmps37
  go_wp2_with fail
  refine cal_end (g := w.heap.size + 1) (cs := [_, _, _, _, _, _, _, _, _, _, _, _, _]) rfl rfl ?_ rfl rfl ⟨rfl, ?_⟩
  · exact cs_mid _ _ _ _ _
  · exact below_new3 _ _ _ _
set_option maxHeartbeats 16000000 in
theorem only_4 (c1 c2 c3 c5 c6 : Nat) (c7 : ByteArray) (c8 c9 : Nat) (c10 : ByteArray) (c11 c12 : Nat) (c13 : List UInt8) (A : Option Addr) (n cp : Nat) (w : World) : Calls Tryd.prog 37 #[.agg (calCells (CX c1 c2 c3 4 c5 c6 c7 c8 c9 c10 c11 c12 c13) (.slice A n cp)).toArray] w fun e w' => e = .returned (.tuple #[.agg (calCells (onlyX (CX c1 c2 c3 4 c5 c6 c7 c8 c9 c10 c11 c12 c13)) (onlyV (CX c1 c2 c3 4 c5 c6 c7 c8 c9 c10 c11 c12 c13) (.slice A n cp))).toArray, .bool true]) ∧ Below w.heap.size w w' := by
  change Calls Tryd.prog _ #[.agg #[.int .u8 (c1 : Int), .int .u32 (c2 : Int), .int .u64 (c3 : Int), .int .u8 4, .int .u32 (c5 : Int), .int .u32 (c6 : Int), .string c7, .int .u32 (c8 : Int), .int .u32 (c9 : Int), .string c10, .int .u32 (c11 : Int), .int .u32 (c12 : Int), .slice A n cp]] w _
  go_enter Tryd.func37, Tryd.ntmps37
  go_wp2_with fail
  refine cal_end (g := w.heap.size + 1) (cs := [_, _, _, _, _, _, _, _, _, _, _, _, _]) rfl rfl ?_ rfl rfl ⟨rfl, ?_⟩
  · exact cs_mid _ _ _ _ _
  · exact below_new3 _ _ _ _

end Go.Proofs.YthfaemcpheecfaaDoor
