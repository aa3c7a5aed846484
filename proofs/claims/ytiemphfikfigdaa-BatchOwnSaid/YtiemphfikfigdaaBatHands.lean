/- Layer 7's laws: row, put, gone. -/
import Derived.Test.YtiemphfikfigdaaBatProg
import Derived.Test.YtiemphfikfigdaaBatRK
namespace Go.Proofs.Ytiemphfikfigdaa
open Go.RowKit Go.Shelf
set_option linter.unusedVariables false
set_option maxRecDepth 100000
set_option linter.unusedSimpArgs false

theorem wpList_buildB1 {w : World} {ops : Array Oper} {rest : List Oper} {o : Oper} {a : Act} {Q : Exit → Act → World → Prop} (hgd : o.guard = none) (x : Operand) (ho : o.op = .buildSlice 23 1 #[(0, x)]) (c : UInt8) (hx : a.eval x = .int .u8 (c.toNat : Int))
    (hK : ∀ g w', Cs w' g 5 #[.int .u8 (c.toNat : Int)] → Below w.heap.size w w' → w.heap.size ≤ g → wpList Try.prog ops Q rest (a.put o.dst (.slice (some ⟨g, 0, none⟩) 1 1)) w') : wpList Try.prog ops Q (o :: rest) a w := by
  refine wpList_plain hgd fun _ hh => wp_of_run2 (v := .slice (some ⟨w.heap.size, 0, none⟩) 1 1) (w' := w.alloc (.cells #[.int .u8 (c.toNat : Int)] 5)) ?_ (hh _ _ (hK _ _ (Cs.new _ _ _) ((Below.refl _ _).alloc (Nat.le_refl _) _) (Nat.le_refl _)))
  unfold execOp
  simp only [ho, hx, List.map_toArray, List.map_cons, List.map_nil]
  go_simp
set_option maxHeartbeats 2000000 in
theorem row7_any (k : Key) (c : UInt8) (w : World) : Calls Try.prog 35 #[.string ⟨k.toArray⟩, .int .u8 (c.toNat : Int)] w fun e w' => (∃ g, e = .returned (.slice (some ⟨g, 0, none⟩) 1 1) ∧ RdX rowE w' (w.heap.size ≤ ·) (some ⟨g, 0, none⟩) [(k, [c])]) ∧ Below w.heap.size w w' := by
  go_enter Try.func35, Try.ntmps35
  go_wp2_with (first
    | ((with_reducible show wpList _ _ _ _ _ w); refine wpList_buildB1 rfl _ rfl c rfl ?_; intro g1 w1 hk hb hg; go_frame; have K1 := Lib.hid hk; have B1 := Lib.hid hb; have G1 := Lib.hid hg; clear hk hb hg)
    | ((with_reducible show wpList _ _ _ _ _ w1); refine wpList_buildRow rfl _ rfl (k, [c]) (some ⟨g1, 0, none⟩) 1 rfl ?_; intro g2 w2 hk hb hg; go_frame; have K2 := Lib.hid hk; have B2 := Lib.hid hb; have G2 := Lib.hid hg; clear hk hb hg))
  go_ret
  have r1 : Rd w2 (some ⟨g1, 0, none⟩) [c] := (rd_cs (l := [c]) K1.out rfl).below B2.out
  refine ⟨⟨g2, rfl, .inr ⟨g2, 0, _, rfl, Nat.le_trans B1.out.size G2.out, RowX.single (E := rowE) ⟨_, rfl, some ⟨g1, 0, none⟩, 1, rfl, r1.f fun b off e _ => (by cases e; exact G1.out), (fun e => by cases e), Nat.le_refl _, by decide⟩, fun i v hv => ?_⟩⟩, below_chain B1.out B2.out⟩
  rw [Nat.zero_add]
  exact K2.out.cell i (by simpa [rwCells, sv] using hv)
set_option maxHeartbeats 2000000 in
theorem put7_any (k : Key) (c : UInt8) (w : World) : Calls Try.prog 33 #[.string ⟨k.toArray⟩, .int .u8 (c.toNat : Int)] w fun e w' => (∃ g, e = .returned (.agg #[.string ⟨k.toArray⟩, .slice (some ⟨g, 0, none⟩) 1 1, .bool false]) ∧ BsV w' (w.heap.size ≤ ·) (.slice (some ⟨g, 0, none⟩) 1 1) [c]) ∧ Below w.heap.size w w' := by
  go_enter Try.func33, Try.ntmps33
  go_wp2
  (try simp only [Exit.inBlock, Exit.then])
  have b1 := (Below.refl w.heap.size w).alloc (Nat.le_refl _) (.cells (chCells (k, [c], false) (some ⟨w.heap.size + 1, 0, none⟩) 1).toArray 52)
  have c1 := Cs.new w 52 (chCells (k, [c], false) (some ⟨w.heap.size + 1, 0, none⟩) 1).toArray
  have b2 := (Below.refl (w.alloc (.cells (chCells (k, [c], false) (some ⟨w.heap.size + 1, 0, none⟩) 1).toArray 52)).heap.size _).alloc (Nat.le_refl _) (.cells #[.int .u8 (c.toNat : Int)] 5)
  have c2 := Cs.new (w.alloc (.cells (chCells (k, [c], false) (some ⟨w.heap.size + 1, 0, none⟩) 1).toArray 52)) 5 #[.int .u8 (c.toNat : Int)]
  have hz : (w.alloc (.cells (chCells (k, [c], false) (some ⟨w.heap.size + 1, 0, none⟩) 1).toArray 52)).heap.size = w.heap.size + 1 := by show (w.heap.push _).size = _; exact Array.size_push _
  rw [hz] at c2
  refine bodyPost_ret (results_agg rfl _ _ w.heap.size 0 (chCells (k, [c], false) (some ⟨w.heap.size + 1, 0, none⟩) 1) rfl (At.whole (c1.alloc _)) _ Try.underlying52 rfl (infoCh (k, [c], false) _ _)) rfl ⟨⟨w.heap.size + 1, rfl, some ⟨w.heap.size + 1, 0, none⟩, 1, rfl, (rd_cs (l := [c]) c2 rfl).f fun b off e _ => (by cases e; exact Nat.le_succ _), (fun e => by cases e), Nat.le_refl _, by decide⟩, below_chain b1 b2⟩
theorem gone7_any (k : Key) (w : World) : Calls Try.prog 34 #[.string ⟨k.toArray⟩] w fun e w' => e = .returned (.agg #[.string ⟨k.toArray⟩, .slice none 0 0, .bool true]) ∧ Below w.heap.size w w' := by
  go_enter Try.func34, Try.ntmps34
  go_wp2
  (try simp only [Exit.inBlock, Exit.then])
  have b1 := (Below.refl w.heap.size w).alloc (Nat.le_refl _) (.cells (chCells (k, [], true) none 0).toArray 52)
  have c1 := Cs.new w 52 (chCells (k, [], true) none 0).toArray
  exact bodyPost_ret (results_agg rfl _ _ w.heap.size 0 (chCells (k, [], true) none 0) rfl (At.whole c1) _ Try.underlying52 rfl (infoCh (k, [], true) _ _)) rfl ⟨rfl, b1⟩

end Go.Proofs.Ytiemphfikfigdaa
