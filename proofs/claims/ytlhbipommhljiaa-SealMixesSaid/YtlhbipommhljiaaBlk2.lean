/- A block of 64 bytes as one value, without the disk: its zero, load, store, box, comparison; a piece of it, laid by copy. -/
import Derived.Test.YtlhbipommhljiaaBlk
import Derived.Test.YtlhbipommhljiaaDiskPlain
import Derived.Deep.RegionLaw
import Derived.RegionTactic
import Derived.Carry
import Derived.Laws.BitsAllLaws
import Derived.Stop.BytesEq
import Derived.Deep.RegionHeld3
namespace Go.Proofs.Ytlhbipommhljiaa
open Go.RowKit Go.Shelf
set_option linter.unusedVariables false

/-- a block's value -/
def bv (l : Blk) : Value := .agg (cellsOf l).toArray
theorem zero30 (w : World) : (zeroValue 25).run Try.prog w = .ok (.agg (cellsOf zb).toArray) w := by kernel_rfl
theorem info30 : (Try.prog.info? 25).map (·.size) = some 64 := by kernel_rfl
theorem info30' (l : Blk) (h : l.length = 64) : (Try.prog.info? 25).map (·.size) = some (cellsOf l).length := by rw [cellsOf_length, h]; exact info30
def isU8 : Value → Bool
  | .int .u8 a => decide (0 ≤ a) && decide (a < 256)
  | _ => false
def byteOf : Value → UInt8
  | .int _ a => UInt8.ofNat a.toNat
  | _ => 0
theorem byte_cells (l : List UInt8) : (cellsOf l).map byteOf = l := by
  unfold cellsOf
  rw [List.map_map]
  refine (List.map_congr_left fun c _ => ?_).trans (List.map_id l)
  simp [byteOf]
theorem cells_byte : ∀ cs : List Value, cs.all isU8 = true → cellsOf (cs.map byteOf) = cs
  | [], _ => rfl
  | v :: cs, h => by
    rw [List.all_cons, Bool.and_eq_true] at h
    rw [List.map_cons]
    show _ :: cellsOf (cs.map byteOf) = _
    rw [cells_byte cs h.2]
    congr 1
    have hv := h.1
    unfold isU8 at hv
    split at hv
    · rename_i a
      simp only [Bool.and_eq_true, decide_eq_true_eq] at hv
      simp only [byteOf]
      congr 1
      rw [UInt8.toNat_ofNat']
      omega
    · cases hv
theorem cells_u8 (l : List UInt8) : (cellsOf l).all isU8 = true := by
  unfold cellsOf
  rw [List.all_map, List.all_eq_true]
  intro c _
  have := c.toNat_lt
  simp [isU8]
  omega
/-- a block and another value, handed back -/
theorem end_blk {fn : Func} {p u : Tmp} (h : fn.results = #[.cell p 25, .tmp u]) (tmps : Array Value) (w : World) (b f : Nat) (l : Blk) (v : Value) (hp : tmps.getD p undef = .pointer (some ⟨b, f, none⟩)) (hv : tmps.getD u undef = v)
    (hc : At w b f (cellsOf l)) (hl : l.length = 64) : (results fn tmps).run Try.prog w = .ok (.tuple #[bv l, v]) w := by
  rw [results_agg_tmp h tmps w b f (cellsOf l) hp hc _ Try.underlying25 rfl (info30' l hl), hv]
  rfl
theorem end_blk1 {fn : Func} {p : Tmp} (h : fn.results = #[.cell p 25]) (tmps : Array Value) (w : World) (b f : Nat) (l : Blk) (hp : tmps.getD p undef = .pointer (some ⟨b, f, none⟩))
    (hc : At w b f (cellsOf l)) (hl : l.length = 64) : (results fn tmps).run Try.prog w = .ok (bv l) w :=
  results_agg h tmps w b f (cellsOf l) hp hc _ Try.underlying25 rfl (info30' l hl)
/-- a variable for a block, filled -/
theorem cs_fill {w : World} {g : Nat} {t : TypeId} {l0 : Blk} (h : Cs w g t (cellsOf l0).toArray) (l : Blk) (h0 : l0.length = 64) (hl : l.length = 64) : Cs (w.setRow g (over (cellsOf l0).toArray 0 (cellsOf l))) g t (cellsOf l).toArray := by
  have := h.row (over (cellsOf l0).toArray 0 (cellsOf l))
  rwa [over_whole _ _ (by simp [cellsOf_length, h0, hl])] at this ⊢
theorem fill_fits (l0 l : Blk) (h0 : l0.length = 64) (hl : l.length = 64) : 0 + (cellsOf l).length ≤ (cellsOf l0).toArray.size := by simp [cellsOf_length, h0, hl]
section
variable {w : World} {ops : Array Oper} {rest : List Oper} {o : Oper} {a : Act} {Q : Exit → Act → World → Prop} {K : Act → World → Prop}
/-- a block's zero value, built -/
theorem wp_build_zero (ho : o.op = .build 25 #[]) (h : K (a.put o.dst (bv zb)) w) : o.wp Try.prog a w K Q := by
  have hz := zero30
  unfold Oper.wp execOp
  have hs := Try.sizeOf5
  simp only [ho, Instr.build, Array.map_empty, hz, Sem.run_bind, Sem.run_pure, Result.andThen_ok, run_underlying Try.underlying25, hs, Instr.fill]
  exact h
theorem wpList_build_zero (hgd : o.guard = none) (ho : o.op = .build 25 #[]) (hK : wpList Try.prog ops Q rest (a.put o.dst (bv zb)) w) : wpList Try.prog ops Q (o :: rest) a w :=
  wpList_plain hgd fun _ hh => wp_build_zero ho (hh _ _ hK)
/-- .. of blocks: a variable that is made, one that is filled, one that is read -/
theorem wpList_alloc_blk (hgd : o.guard = none) (ho : o.op = .alloc 25) (hK : ∀ g w', Cs w' g 25 (cellsOf zb).toArray → Below w.heap.size w w' → w.heap.size ≤ g → wpList Try.prog ops Q rest (a.put o.dst (.pointer (some ⟨g, 0, none⟩))) w') : wpList Try.prog ops Q (o :: rest) a w :=
  wpList_alloc_agg hgd 25 ho (cellsOf zb) zero30 (hK _ _ (Cs.new _ _ _) ((Below.refl _ _).alloc (Nat.le_refl _) _) (Nat.le_refl _))
theorem wpList_box_blk (hgd : o.guard = none) (x : Operand) (ho : o.op = .box 25 x) (l : Blk) (hx : a.eval x = bv l) (hK : ∀ g w', Cs w' g 25 (cellsOf l).toArray → Below w.heap.size w w' → w.heap.size ≤ g → wpList Try.prog ops Q rest (a.put o.dst (.pointer (some ⟨g, 0, none⟩))) w') : wpList Try.prog ops Q (o :: rest) a w :=
  wpList_box_agg hgd 25 x ho (cellsOf l) hx (hK _ _ (Cs.new _ _ _) ((Below.refl _ _).alloc (Nat.le_refl _) _) (Nat.le_refl _))
theorem wpList_fill_blk (hgd : o.guard = none) (x y : Operand) (ho : o.op = .store 25 x y) (g : Nat) (hx : a.eval x = .pointer (some ⟨g, 0, none⟩)) (l : Blk) (hy : a.eval y = bv l) (hl : l.length = 64) (hg : Cs w g 25 (cellsOf zb).toArray)
    (hK : ∀ w', Cs w' g 25 (cellsOf l).toArray → w.grownBy w' (some g) → wpList Try.prog ops Q rest (a.put o.dst undef) w') : wpList Try.prog ops Q (o :: rest) a w :=
  wpList_store_agg hgd 25 x y ho g 0 hx (cellsOf l) hy 25 (cellsOf zb).toArray hg (fill_fits zb l zb_len hl) (cellsOf_one l) (info30' l hl) (hK _ (cs_fill hg l zb_len hl) (grown_row _ _ _))
theorem wpList_load_blk (hgd : o.guard = none) (x : Operand) (ho : o.op = .load 25 x) (b f : Nat) (hx : a.eval x = .pointer (some ⟨b, f, none⟩)) (l : Blk) (hl : l.length = 64) (hc : At w b f (cellsOf l))
    (hK : wpList Try.prog ops Q rest (a.put o.dst (bv l)) w) : wpList Try.prog ops Q (o :: rest) a w :=
  wpList_load_agg hgd 25 x ho b f hx (cellsOf l) hc _ Try.underlying25 rfl (info30' l hl) hK
end
theorem keep_own {w W W' : World} {g : Nat} (hb : Below w.heap.size w W) (hg : W.grownBy W' (some g)) (hl : w.heap.size ≤ g) : Below w.heap.size w W' := hb.grown hg hb.size (fun j e => by injection e with e; omega)
section
variable {P : Program} {w : World} {ops : Array Oper} {rest : List Oper} {o : Oper} {a : Act} {Q : Exit → Act → World → Prop} {K : Act → World → Prop} {v : Value}
theorem step_if {c A E : Prop} [Decidable c] (hc : c) (h : A) : if c then A else E := by rw [if_pos hc]; exact h
theorem wp_of_run (h : (execOp a.eval o).run P w = .ok (.value v) w) (hK : K (a.put o.dst v) w) : o.wp P a w K Q := by
  unfold Oper.wp
  rw [h]
  exact hK
theorem step_of_run {E : Prop} (hg : o.guard = none) (h : (execOp a.eval o).run P w = .ok (.value v) w) (hK : K (a.put o.dst v) w) : if Region.wanted o (yielded ops a.tmps) = true then Oper.wp P o a w K Q else E := step_wp hg (wp_of_run h hK)
theorem exec_load_agg (ty : TypeId) (x : Operand) (ho : o.op = .load ty x) (b f : Nat) (hx : a.eval x = .pointer (some ⟨b, f, none⟩)) (cs : List Value) (hc : At w b f cs) (d : TypeDesc) (hu : P.underlying ty = some d)
    (hd : (match d with | .struct _ | .array _ _ => true | _ => false) = true) (hi : (P.info? ty).map (·.size) = some cs.length) : (execOp a.eval o).run P w = .ok (.value (.agg cs.toArray)) w := by
  unfold execOp
  simp only [ho, hx, Instr.loadAt, Instr.sureAddr, Sem.run_bind, Sem.run_pure, Result.andThen_ok, run_loadVar_at w ty b f cs hc d hu hd hi]
end
theorem exec_load_blk {w : World} {o : Oper} {a : Act} (x : Operand) (ho : o.op = .load 25 x) (b f : Nat) (hx : a.eval x = .pointer (some ⟨b, f, none⟩)) (l : Blk) (hl : l.length = 64) (hc : At w b f (cellsOf l)) : (execOp a.eval o).run Try.prog w = .ok (.value (bv l)) w :=
  exec_load_agg 25 x ho b f hx (cellsOf l) hc _ Try.underlying25 rfl (info30' l hl)
theorem over_cells (l m : List UInt8) (f : Nat) : over (cellsOf l).toArray f (cellsOf m) = (cellsOf (l.take f ++ m ++ l.drop (f + m.length))).toArray := by
  unfold over
  simp [cellsOf]
theorem At.part {w : World} {g : Nat} {t : TypeId} {l : List UInt8} (h : Cs w g t (cellsOf l).toArray) (f n : Nat) : At w g f (cellsOf ((l.drop f).take n)) :=
  At.of_cs h f _ fun j v hv => by
    simp only [cellsOf, List.map_take, List.map_drop] at hv
    rw [List.getElem?_take] at hv
    split at hv
    · rw [List.getElem?_drop] at hv
      simpa [cellsOf] using hv
    · cases hv
section
variable {w : World} {ops : Array Oper} {rest : List Oper} {o : Oper} {a : Act} {Q : Exit → Act → World → Prop} {K : Act → World → Prop}
theorem wp_copy_cells (d s : Operand) (ho : o.op = Op.call { callee := Callee.builtin Builtin.copy, args := #[d, s], argTypes := #[23, 23] }) (g f n dc sg so sc : Nat) (hd : a.eval d = .slice (some ⟨g, f, none⟩) n dc)
    (hs : a.eval s = .slice (some ⟨sg, so, none⟩) n sc) (t : TypeId) (cur : Array Value) (cs : List Value) (hg : Cs w g t cur) (hc : At w sg so cs) (hn : cs.length = n) (hfit : f + n ≤ cur.size) (h1 : ∀ v ∈ cs, v.oneCell' = true)
    (hK : K (a.put o.dst (.int .i64 (n : Int))) (w.setRow g (over cur f cs))) : o.wp Try.prog a w K Q := by
  have hrun := run_copy_row (P := Try.prog) w 23 23 o.type 5 g f n dc ⟨sg, so, none⟩ n sc cur t cs Try.underlying23 (by kernel_rfl) hg (by rw [hn]; exact (Nat.min_self n).symm) (fun j v hv => by rw [addr_add]; exact hc j v hv) (by omega) h1
  rw [hn] at hrun
  unfold Oper.wp execOp
  simp only [ho, resolve, invoke, builtin, Sem.run_bind, Sem.run_pure, Result.andThen_ok, List.map_toArray, List.map_cons, List.map_nil, hd, hs, hrun]
  unfold over at hK
  rw [hn] at hK
  exact hK
theorem exec_neq_blk (x y : Operand) (yt : TypeId) (ho : o.op = .binOp .neq 25 x y yt) (l m : Blk) (hx : a.eval x = bv l) (hy : a.eval y = bv m) (hl : l.length = 64) (hm : m.length = 64) : (execOp a.eval o).run Try.prog w = .ok (.value (.bool (!(l == m)))) w := by
  have hg := run_eqGuard_agg (P := Try.prog) w .neq 25 x y (cellsOf l).toArray (cellsOf m).toArray Try.eqGuardType25
  have he := run_equalIn_bytes (P := Try.prog) w 9998 25 5 64 Try.underlying25 Try.underlying5 Try.sizeOf5 l m hl hm
  have hn : (binOp .neq 25 (bv l) (bv m)).run Try.prog w = .ok (.bool (!(l == m))) w := by
    unfold bv
    rw [run_neq_struct]
    show ((Op.equalIn (9998 + 2) 25 (.agg (cellsOf l).toArray) (.agg (cellsOf m).toArray)).run Try.prog w).andThen _ = _
    rw [show (Op.equalIn (9998 + 2) 25 (.agg (cellsOf l).toArray) (.agg (cellsOf m).toArray)).run Try.prog w = .ok (l == m) w from he]
    rfl
  unfold execOp
  simp only [ho, hx, hy, Sem.run_bind, Sem.run_pure]
  rw [show (eqGuard .neq 25 x y (bv l) (bv m)).run Try.prog w = .ok () w from hg]
  simp only [Result.andThen_ok, hn]
theorem wpList_load_blk_g (hw : Region.wanted o (yielded ops a.tmps) = true) (x : Operand) (ho : o.op = .load 25 x) (b f : Nat) (hx : a.eval x = .pointer (some ⟨b, f, none⟩)) (l : Blk) (hl : l.length = 64) (hc : At w b f (cellsOf l))
    (hK : wpList Try.prog ops Q rest (a.put o.dst (bv l)) w) : wpList Try.prog ops Q (o :: rest) a w :=
  BigFrame.wpList_want hw fun K h => wp_of_run (exec_load_blk x ho b f hx l hl hc) (h _ _ hK)
end
theorem part_len (b : Blk) (hb : b.length = 64) (f : Nat) (hf : f + 16 ≤ 64) : (cellsOf ((b.drop f).take 16)).length = 16 := by
  rw [cellsOf_length]
  simp
  omega
theorem yieldsIf_load_blk {ops : Array Oper} {o : Oper} {a : Act} {S : World → Prop} (hg : o.guard = none) (x : Operand) (ho : o.op = .load 25 x) (b f : Nat) (hx : a.eval x = .pointer (some ⟨b, f, none⟩)) (l : Blk) (hl : l.length = 64)
    (hc : ∀ w, S w → At w b f (cellsOf l)) : YieldsIf Try.prog ops S o (bv l) a := .inl ⟨by simp [Region.wanted, hg], fun w hS => exec_load_blk x ho b f hx l hl (hc w hS)⟩

end Go.Proofs.Ytlhbipommhljiaa
