/- Writes of the queue as aggregates, and laws at an operation by its run: in a list, in a region that draws its order, in a region that only reads. -/
import Derived.Test.YtnhbhfnpcbmjkaaDiskFull
import Derived.StillTailTactics
import Derived.Maps.AppendAt
namespace Go.Proofs.Ytnhbhfnpcbmjkaa
open Go.RowKit Go.Shelf Go.Maps
set_option linter.unusedVariables false

section
variable {P : Program} {w : World} {ops : Array Oper} {rest : List Oper} {o : Oper} {a : Act} {Q : Exit → Act → World → Prop} {K : Act → World → Prop} {v : Value}
theorem step_if {c A E : Prop} [Decidable c] (hc : c) (h : A) : if c then A else E := by rw [if_pos hc]; exact h
theorem wp_of_run (h : (execOp a.eval o).run P w = .ok (.value v) w) (hK : K (a.put o.dst v) w) : o.wp P a w K Q := by
  unfold Oper.wp
  rw [h]
  exact hK
theorem step_of_run {E : Prop} (hg : o.guard = none) (h : (execOp a.eval o).run P w = .ok (.value v) w) (hK : K (a.put o.dst v) w) : if Region.wanted o (yielded ops a.tmps) = true then Oper.wp P o a w K Q else E := step_wp hg (wp_of_run h hK)
theorem wpStill_of_run {Q : Act → Prop} (hg : o.guard = none) (h : (execOp a.eval o).run P w = .ok (.value v) w) (hK : wpStill P ops w Q rest (a.put o.dst v)) : wpStill P ops w Q (o :: rest) a := by
  unfold wpStill
  rw [if_pos (by simp [Region.wanted, hg])]
  unfold Oper.still
  rw [h, Oper.stillUpon_value]
  exact hK
/-- a region whose operations only read, but for the last ones: the world behind the draw under a name of its own -/
theorem region_tail {id : Nat} {l : List Oper} (n : Nat) (hm : P.follows .mixedOrders = true) (hB : Region.lexTailB .any l.toArray n = true)
    (h : ∀ w2, w2 = w.drew → wpStill P l.toArray w2 (fun a' => wpList P l.toArray Q (l.drop n) a' w2) (l.take n) a) : (Code.region id l.toArray true).wp P Q a w := wp_region_still_tail n hm hB (h _ rfl)
theorem exec_load_agg (ty : TypeId) (x : Operand) (ho : o.op = .load ty x) (b f : Nat) (hx : a.eval x = .pointer (some ⟨b, f, none⟩)) (cs : List Value) (hc : At w b f cs) (d : TypeDesc) (hu : P.underlying ty = some d)
    (hd : (match d with | .struct _ | .array _ _ => true | _ => false) = true) (hi : (P.info? ty).map (·.size) = some cs.length) : (execOp a.eval o).run P w = .ok (.value (.agg cs.toArray)) w := by
  unfold execOp
  simp only [ho, hx, Instr.loadAt, Instr.sureAddr, Sem.run_bind, Sem.run_pure, Result.andThen_ok, run_loadVar_at w ty b f cs hc d hu hd hi]
end
theorem exec_load_blk {w : World} {o : Oper} {a : Act} (x : Operand) (ho : o.op = .load 30 x) (b f : Nat) (hx : a.eval x = .pointer (some ⟨b, f, none⟩)) (l : Blk) (hl : l.length = 64) (hc : At w b f (cellsOf l)) : (execOp a.eval o).run Try.prog w = .ok (.value (bv l)) w :=
  exec_load_agg 30 x ho b f hx (cellsOf l) hc _ Try.underlying30 rfl (info30' l hl)
theorem exec_look {w : World} {o : Oper} {a : Act} {b B : Nat} {f : Tab} (m x : Operand) (ho : o.op = .lookup 46 m x false) (hm : a.eval m = .map (some b)) (k : Int) (hx : a.eval x = .int .i64 k) (h : MapIs w b B f) (h0 : 0 ≤ k) (h1 : k < 16384) :
    (execOp a.eval o).run Try.prog w = .ok (.value (bv (tell f k))) w := by
  unfold execOp
  simp only [ho, hm, hx, Sem.run_bind, Sem.run_pure, Result.andThen_ok, run_look h k h0 h1]

/-- a write of the queue -/
def wcells (x : Int × Blk) : List Value := .int .i64 x.1 :: cellsOf x.2
theorem wcells_len (x : Int × Blk) (h : x.2.length = 64) : (wcells x).length = 65 := by simp [wcells, cellsOf_length, h]
theorem wcells_one (x : Int × Blk) : ∀ v ∈ wcells x, v.oneCell' = true := by
  intro v hv
  rcases List.mem_cons.1 hv with rfl | hv
  · rfl
  · exact cellsOf_one _ v hv
theorem qcells_snoc (q : List (Int × Blk)) (x : Int × Blk) : qcells (q ++ [x]) = qcells q ++ wcells x := by simp [qcells, wcells]
theorem qcells_len (q : List (Int × Blk)) (h : ∀ x ∈ q, x.2.length = 64) : (qcells q).length = q.length * 65 := by
  induction q with
  | nil => rfl
  | cons x q ih =>
    have := ih fun y hy => h y (by simp [hy])
    simp only [qcells, List.flatMap_cons, List.length_append, List.length_cons] at this ⊢
    rw [this, cellsOf_length, h x (by simp)]
    omega
theorem qcells_at (q : List (Int × Blk)) (h : ∀ x ∈ q, x.2.length = 64) (i : Nat) (hi : i < q.length) (j : Nat) (hj : j < 65) : (qcells q)[i * 65 + j]? = (wcells q[i])[j]? := by
  induction q generalizing i with
  | nil => simp at hi
  | cons x q ih =>
    have hx : (wcells x).length = 65 := wcells_len x (h x (by simp))
    have e : qcells (x :: q) = wcells x ++ qcells q := by simp [qcells, wcells]
    rw [e]
    cases i with
    | zero => rw [List.getElem?_append_left (by omega)]; simp
    | succ i =>
      rw [List.getElem?_append_right (by omega), hx, show (i + 1) * 65 + j - 65 = i * 65 + j by omega, ih (fun y hy => h y (by simp [hy])) i (by simpa using hi)]
      simp
def wz : Value := .agg (wcells (0, zb)).toArray
theorem zero53 (w : World) : (zeroValue 53).run Try.prog w = .ok wz w := by kernel_rfl
theorem info53 : (Try.prog.info? 53).map (fun i => (i.zero, i.size, i.bytes)) = some (some wz, 65, 72) := by kernel_rfl
theorem info53s (x : Int × Blk) (h : x.2.length = 64) : (Try.prog.info? 53).map (·.size) = some (wcells x).length := by rw [wcells_len x h]; kernel_rfl
theorem fold_zip (cs : List Value) (arr : Array Value) (off : Nat) (h : off + cs.length ≤ arr.size) :
    cs.toArray.zipIdx.foldl (fun (x : Array Value) (y : Value × Nat) => x.setIfInBounds (off + y.2) y.1) arr = over arr off cs := by
  have := fold_set cs arr off 0 (by omega)
  rw [Nat.add_zero] at this
  rw [← this]
  simp
theorem fill_cons (place : Nat → Option (Nat × Nat)) (cells : Array Value) (i off size : Nat) (cs : List Value) (v : Value) (rest : List (Nat × Value)) (hv : v.cells = cs.toArray) (hp : place i = some (off, size)) (hs : cs.length = size) (hf : off + size ≤ cells.size) :
    Instr.fill place cells ((i, v) :: rest) = Instr.fill place (over cells off cs) rest := by
  rw [Instr.fill]
  simp only [hp, hv]
  rw [if_neg (by simp [hs]; omega), fold_zip cs cells off (by omega)]
theorem run_build_write (n : Int) (l : Blk) (hl : l.length = 64) (w : World) : (Instr.build 53 #[(0, .int .i64 n), (1, bv l)]).run Try.prog w = .ok (.agg (wcells (n, l)).toArray) w := by
  have hz := zero53
  have hs := Try.sizeOf3
  have hs2 := Try.sizeOf30
  have hlen : (cellsOf l).length = 64 := by rw [cellsOf_length, hl]
  have hz64 : (cellsOf zb).length = 64 := by rw [cellsOf_length]; exact zb_len
  have e1 : over wz.cells 0 [.int .i64 n] = (Value.int .i64 n :: cellsOf zb).toArray := by
    show over (wcells (0, zb)).toArray 0 [.int .i64 n] = _
    unfold over wcells
    simp
  have e2 : over (Value.int .i64 n :: cellsOf zb).toArray 1 (cellsOf l) = (wcells (n, l)).toArray := by
    unfold over wcells
    rw [hlen]
    simp [hz64]
  have hm : (Array.mapM (fun f => do let s ← sizeOf f.type; pure (f.offset, s)) (#[{ name := "n", type := 3, offset := 0, embedded := false, tag := "", pkgPath := "wharfage/disk", byteOffset := 0 }, { name := "block", type := 30, offset := 1, embedded := false, tag := "", pkgPath := "wharfage/disk", byteOffset := 8 }] : Array Field) : Sem (Array (Nat × Nat))).run Try.prog w = .ok #[(0, 1), (1, 64)] w := by kernel_rfl
  have hfill : Instr.fill (fun x => (#[(0, 1), (1, 64)] : Array (Nat × Nat))[x]?) wz.cells [(0, .int .i64 n), (1, bv l)] = some (wcells (n, l)).toArray := by
    rw [fill_cons _ _ 0 0 1 [.int .i64 n] _ _ rfl rfl rfl (by show 0 + 1 ≤ (wcells (0, zb)).toArray.size; rw [List.size_toArray, wcells_len _ zb_len]; decide), e1,
      fill_cons _ _ 1 1 64 (cellsOf l) _ _ rfl rfl hlen (by simp [hz64]), e2]
    rfl
  simp only [Instr.build, hz, Sem.run_bind, Result.andThen_ok, run_underlying Try.underlying53, hm, hfill]
  rfl
theorem run_buildSlice_write (x : Int × Blk) (hx : x.2.length = 64) (w : World) : (Instr.buildSlice 47 1 #[(0, .agg (wcells x).toArray)]).run Try.prog w = .ok (.slice (some ⟨w.heap.size, 0, none⟩) 1 1) (w.alloc (.cells (wcells x).toArray 53)) := by
  have hz := zero53
  have hs := Try.sizeOf53
  have hlen := wcells_len x hx
  have hsz : (wcells x).toArray.size = 65 := by simpa using hlen
  have hcur : ((Array.range (1 * 65)).map (wz.cells[· % wz.cells.size]!)).size = 65 := by simp
  have hf := fold_zip (wcells x) ((Array.range (1 * 65)).map (wz.cells[· % wz.cells.size]!)) (0 * 65) (by rw [hcur, hlen]; decide)
  rw [over_whole _ _ (by rw [hcur, hlen])] at hf
  have hfill : Instr.fill (fun i => some (i * 65, 65)) ((Array.range (1 * 65)).map (wz.cells[· % wz.cells.size]!)) [(0, .agg (wcells x).toArray)] = some (wcells x).toArray := by
    show (if (((wcells x).toArray.size ≠ 65 : Bool) || (0 * 65 + (wcells x).toArray.size > ((Array.range (1 * 65)).map (wz.cells[· % wz.cells.size]!)).size : Bool)) = true then none else
      some ((wcells x).toArray.zipIdx.foldl (fun (x : Array Value) (y : Value × Nat) => x.setIfInBounds (0 * 65 + y.2) y.1) ((Array.range (1 * 65)).map (wz.cells[· % wz.cells.size]!)))) = _
    rw [if_neg (by rw [hsz, hcur]; decide), hf]
  simp only [Instr.buildSlice, Sem.run_bind, Result.andThen_ok, run_underlying Try.underlying47, hs]
  rw [if_neg (by decide), if_neg (by decide)]
  simp only [Sem.run_bind, hz, Sem.run_pure, Result.andThen_ok, hfill, newRow, run_newObj]
  rfl

section
variable {w : World} {ops : Array Oper} {rest : List Oper} {o : Oper} {a : Act} {Q : Exit → Act → World → Prop} {K : Act → World → Prop}
theorem exec_build_write (x y : Operand) (ho : o.op = .build 53 #[(0, x), (1, y)]) (n : Int) (hx : a.eval x = .int .i64 n) (l : Blk) (hl : l.length = 64) (hy : a.eval y = bv l) : (execOp a.eval o).run Try.prog w = .ok (.value (.agg (wcells (n, l)).toArray)) w := by
  unfold execOp
  simp only [ho, hx, hy, List.map_toArray, List.map_cons, List.map_nil, run_build_write n l hl, Sem.run_bind, Sem.run_pure, Result.andThen_ok]
theorem wp_buildSlice_write (x : Operand) (ho : o.op = .buildSlice 47 1 #[(0, x)]) (y : Int × Blk) (hl : y.2.length = 64) (hx : a.eval x = .agg (wcells y).toArray)
    (hK : K (a.put o.dst (.slice (some ⟨w.heap.size, 0, none⟩) 1 1)) (w.alloc (.cells (wcells y).toArray 53))) : o.wp Try.prog a w K Q := by
  unfold Oper.wp execOp
  simp only [ho, hx, List.map_toArray, List.map_cons, List.map_nil, run_buildSlice_write y hl, Sem.run_bind, Sem.run_pure, Result.andThen_ok]
  exact hK
theorem ownsRow_form {w : World} {base n size : Nat} {e : TypeId} {v : Value} {xs : List Value} (h : w.ownsRow base e size v n xs) (hn : 1 ≤ n) : ∃ g cap, v = .slice (some ⟨g, 0, none⟩) n cap := by
  rcases h.2 with ⟨_, h0⟩ | ⟨g, cap, cur, hv, _⟩
  · omega
  · exact ⟨g, cap, hv⟩
/-- an append of one write to the queue -/
theorem wp_append_write (s x : Operand) (ho : o.op = .call { callee := .builtin .append, args := #[s, x], argTypes := #[47, 47] }) (A : Option Addr) (cap : Nat) (q : List (Int × Blk)) (hs : a.eval s = .slice A q.length cap)
    (hown : w.ownsRow 0 53 65 (.slice A q.length cap) q.length (qcells q)) (y : Int × Blk) (hl : y.2.length = 64) (g : Nat) (hx : a.eval x = .slice (some ⟨g, 0, none⟩) 1 1) (hc : Cs w g 53 (wcells y).toArray) (hq : q.length < 1099511627776)
    (hK : ∀ g' cap' w', w'.ownsRow 0 53 65 (.slice (some ⟨g', 0, none⟩) (q.length + 1) cap') (q.length + 1) (qcells (q ++ [y])) → w.grownBy w' (Value.slice A q.length cap).ownBlock →
      (some g' = (Value.slice A q.length cap).ownBlock ∨ g' = w.heap.size) → K (a.put o.dst (.slice (some ⟨g', 0, none⟩) (q.length + 1) cap')) w') : o.wp Try.prog a w K Q := by
  obtain ⟨i0, hi, hz0, hz1, hz2⟩ := info_parts info53
  obtain ⟨v', w', hr, h2, h3, h4, h5⟩ := run_append_own_at (P := Try.prog) w 0 47 o.type 53 i0 wz 65 72 Try.underlying47 hi hz0 hz1 hz2 (by show (wcells (0, zb)).toArray.size = 65; rw [List.size_toArray, wcells_len _ zb_len]) (by decide) (.slice A q.length cap) q.length (qcells q) hown
    ⟨g, 0, none⟩ 1 1 (wcells y) (by rw [wcells_len y hl]) (fun j u hu => by rw [addr_add, Nat.zero_add]; exact hc.cell j (by simpa using hu)) (wcells_one y) (by unfold maxLen; omega) (by omega) (Nat.zero_le _)
  obtain ⟨g', cap', rfl⟩ := ownsRow_form h2 (by omega)
  rw [← qcells_snoc] at h2
  unfold Oper.wp execOp
  simp only [ho, resolve, invoke, builtin, Sem.run_bind, Sem.run_pure, Result.andThen_ok, List.map_toArray, List.map_cons, List.map_nil, hs, hx, hr]
  refine hK g' cap' w' h2 h3 ?_
  rcases h5 with h5 | h5
  · exact .inl h5
  · exact .inr (by simpa [Value.ownBlock] using h5)
end

end Go.Proofs.Ytnhbhfnpcbmjkaa
