/- SWEPT -/
import Derived.Below
import Derived.BigQuiet
import Derived.Carry
import Derived.ChangeOld
import Derived.Deep.RegionHeld3
import Derived.Deep.RegionLaw
import Derived.Laws.AppendOwnNone
import Derived.Laws.BitsAllLaws
import Derived.Laws.BytesArg
import Derived.Lib.Hide
import Derived.Lib.SlBytesRow
import Derived.Maps.AppendAt
import Derived.Maps.OwnSet
import Derived.OpenShut
import Derived.Orders
import Derived.Outline
import Derived.OwnWalk
import Derived.OwnWalkIn
import Derived.ProofKit
import Derived.RangeFuncBound
import Derived.RangeFuncBox
import Derived.RangeFuncCalls
import Derived.RangeFuncLeaves
import Derived.RangeFuncNested
import Derived.RegionTactic
import Derived.Shelf.Abstract
import Derived.ShutString
import Derived.SizedLaws
import Derived.Stop.BytesEq
import Derived.Test.YtdhlejhflkfoaaaDoorRows
import Derived.WalkKit
import Derived.WalkLawsBesides
import Derived.WalkSpells
import Derived.WideShapes
namespace Go.Proofs.YtdhlejhflkfoaaaDoor
/-- what a step of a region leaves, made plain -/
theorem nrm : (∀ {α : Type} {xs : List α} {i : Nat} (h : i < xs.toArray.size), xs.toArray[i] = xs[i]'(by simpa using h)) ∧ (∀ {α : Type} (a : α) (l : List α) (i : Nat) (h : i + 1 < (a :: l).length), (a :: l)[i + 1] = l[i]'(Nat.lt_of_succ_lt_succ h)) ∧ (∀ {α : Type} (a : α) (l : List α) (h : 0 < (a :: l).length), (a :: l)[0] = a) ∧ (∀ {α : Type} (l : List α) (i : Nat) (a : α), l.toArray.setIfInBounds i a = (l.set i a).toArray) ∧ (∀ {α : Type} (x : α) (xs : List α) (n : Nat) (a : α), (x :: xs).set (n + 1) a = x :: xs.set n a) ∧ (∀ {α : Type} (x : α) (xs : List α) (a : α), (x :: xs).set 0 a = a :: xs) :=
  ⟨fun h => List.getElem_toArray h, fun a l i h => List.getElem_cons_succ a l i h, fun a l h => List.getElem_cons_zero a l h, fun l i a => List.setIfInBounds_toArray l i a, fun _ _ _ _ => List.set_cons_succ, fun _ _ _ => List.set_cons_zero⟩
end Go.Proofs.YtdhlejhflkfoaaaDoor
/- WordsK: Words Blk Ref00 BsRows DiskPlain Blk2 Agg BsApp AnyS AnyV RangeItem. -/
/- Words for memory: a block known whole, a slice that reads as bytes, append of bytes, a list of bytes among the arguments. -/
namespace Go.Proofs.YtdhlejhflkfoaaaDoor
open Go.RowKit Go.Shelf Go.ChangeShapes Go.WideShapes Go.ChangeAt
set_option linter.unusedVariables false
set_option maxRecDepth 100000

/-- block g is known whole -/
def Cs (W : World) (g : Nat) (t : TypeId) (cs : Array Value) : Prop := W.heap[g]? = some (.cells cs t (0, 0))
theorem Cs.lt {W : World} {g : Nat} {t : TypeId} {cs : Array Value} (h : Cs W g t cs) : g < W.heap.size := (Array.getElem?_eq_some_iff.1 h).1
theorem Cs.cell {W : World} {g : Nat} {t : TypeId} {cs : Array Value} (h : Cs W g t cs) (i : Nat) {v : Value} (hv : cs[i]? = some v) : W.cell? ⟨g, i, none⟩ = some v := (cell_of_row W g i cs t (0, 0) h).trans hv
theorem Cs.frozen {W : World} {g : Nat} {t : TypeId} {cs : Array Value} (h : Cs W g t cs) (i : Nat) : W.frozen? ⟨g, i, none⟩ = false := by
  unfold Cs at h
  simp [World.frozen?, h]
theorem Cs.alloc {W : World} {g : Nat} {t : TypeId} {cs : Array Value} (h : Cs W g t cs) (o : Obj) : Cs (W.alloc o) g t cs := (Below.heap_alloc W o g h.lt).trans h
theorem Cs.drew {W : World} {g : Nat} {t : TypeId} {cs : Array Value} (h : Cs W g t cs) : Cs W.drew g t cs := h
theorem Cs.new (W : World) (t : TypeId) (cs : Array Value) : Cs (W.alloc (.cells cs t)) W.heap.size t cs := World.alloc_heap_new W _
theorem Cs.set {W : World} {g : Nat} {t : TypeId} {cs : Array Value} (h : Cs W g t cs) (i : Nat) (u : Value) : Cs (W.setCell ⟨g, i, none⟩ u) g t (cs.setIfInBounds i u) := by
  unfold Cs at h ⊢
  simp [World.setCell, Array.getElem?_modify, h]
theorem Cs.far {W : World} {g : Nat} {t : TypeId} {cs : Array Value} (h : Cs W g t cs) {p : Addr} (hp : g ≠ p.block) (u : Value) : Cs (W.setCell p u) g t cs := (Below.heap_setCell W p u g hp).trans h
theorem Cs.below {B : Nat} {W W' : World} {g : Nat} {t : TypeId} {cs : Array Value} (h : Cs W g t cs) (hb : Below B W W') (hg : g < B) : Cs W' g t cs := (hb.block g hg).trans h
theorem Cs.put {W : World} {g : Nat} {t : TypeId} {cs : Array Value} (h : Cs W g t cs) {D : Nat} {o : Obj} (o' : Obj) (ho : W.heap[D]? = some o) (hc : o.isCells = false) : Cs (W.putObj D o') g t cs :=
  (World.putObj_heap_other (by rintro rfl; rw [show W.heap[_]? = _ from h] at ho; cases ho; cases hc)).trans h
theorem cs_own {β : Type} (g : Nat) (t : TypeId) (f : β → Array Value) : Own (fun s W => Cs W g t (f s)) := fun s X Y row hs hg hrow => (grownBy_keeps_cells hg hrow hs rfl).trans hs
/-- A slice at A reads as the bytes l. -/
def Rd (W : World) (A : Option Addr) (l : List UInt8) : Prop :=
  l = [] ∨ ∃ b off, A = some ⟨b, off, none⟩ ∧ ∀ j (h : j < l.length), W.cell? ⟨b, off + j, none⟩ = some (.int .u8 (l[j].toNat : Int))
theorem Rd.keep {W W' : World} {A : Option Addr} {l : List UInt8} (h : Rd W A l) (hk : ∀ p v, W.cell? p = some v → W'.cell? p = some v) : Rd W' A l := by
  rcases h with h | ⟨b, off, e, hc⟩
  · exact .inl h
  · exact .inr ⟨b, off, e, fun j hj => hk _ _ (hc j hj)⟩
theorem lt_of_cell {W : World} {p : Addr} {v : Value} (h : W.cell? p = some v) : p.block < W.heap.size := by
  obtain ⟨o, ho, _⟩ := cells_of_cell h
  exact (Array.getElem?_eq_some_iff.1 ho).1
theorem Rd.below {W W' : World} {A : Option Addr} {l : List UInt8} (h : Rd W A l) (hb : Below W.heap.size W W') : Rd W' A l :=
  h.keep fun p v hv => (hb.cell (lt_of_cell hv)).trans hv
theorem ba_size (l : List UInt8) : (⟨l.toArray⟩ : ByteArray).size = l.length := by
  show l.toArray.size = _
  simp
theorem conv_rd {W : World} {A : Option Addr} {l : List UInt8} (h : Rd W A l) (c : Nat) : (convert 25 9 (.slice A l.length c)).run Tryd.prog W = .ok (.string ⟨l.toArray⟩) W := by
  rcases h with rfl | ⟨b, off, rfl, hc⟩
  · show (convert 25 9 (.slice A 0 c)).run Tryd.prog W = .ok (.string ⟨#[]⟩) W
    rw [run_convert_bytes_string W _ _ _ _ 0 c Tryd.underlying25 Tryd.underlying5 Tryd.underlying9]
    rcases A with _ | p <;> rfl
  · have := Lib.run_convert_whole (P := Tryd.prog) W 25 5 9 Tryd.underlying25 Tryd.underlying5 Tryd.underlying9 b off ⟨l.toArray⟩ (fun i hi => by
      have hi' : i < l.length := by rw [ba_size] at hi; exact hi
      rw [hc i hi']
      rfl) c
    rw [ba_size] at this
    exact this
theorem rd_cs {W : World} {g : Nat} {l : List UInt8} {cs : Array Value} (h : Cs W g 5 cs) (e : cs = (l.map fun c => Value.int .u8 (c.toNat : Int)).toArray) : Rd W (some ⟨g, 0, none⟩) l :=
  .inr ⟨g, 0, rfl, fun j hj => by
    rw [Nat.zero_add]
    exact h.cell j (by rw [e]; simp [List.getElem?_eq_getElem hj])⟩
theorem below_chain {a b c : World} (h : Below a.heap.size a b) (k : Below b.heap.size b c) : Below a.heap.size a c := h.trans (k.mono h.size)
/-- bytes as cells -/
def cellsOf (l : List UInt8) : List Value := l.map fun c => .int .u8 (c.toNat : Int)
theorem cellsOf_length (l : List UInt8) : (cellsOf l).length = l.length := by simp [cellsOf]
theorem cellsOf_one (l : List UInt8) : ∀ u ∈ cellsOf l, u.oneCell' = true := by
  intro u hu
  simp only [cellsOf, List.mem_map] at hu
  obtain ⟨c, _, rfl⟩ := hu
  rfl
theorem cellsOf_append (p q : List UInt8) : cellsOf (p ++ q) = cellsOf p ++ cellsOf q := by simp [cellsOf]
theorem rd_cells {W : World} {a : Addr} {l : List UInt8} (h : Rd W (some a) l) : ∀ j u, (cellsOf l)[j]? = some u → W.cell? (a.add j) = some u := by
  intro j u hu
  rcases h with rfl | ⟨b, off, e, hc⟩
  · simp [cellsOf] at hu
  · cases e
    have hj : j < l.length := by
      rcases Nat.lt_or_ge j l.length with h1 | h1
      · exact h1
      · rw [List.getElem?_eq_none (by rw [cellsOf_length]; exact h1)] at hu; cases hu
    have e1 : (⟨b, off, none⟩ : Addr).add j = ⟨b, off + j, none⟩ := by
      unfold Addr.add
      split <;> simp_all
    rw [e1, hc j hj]
    simp only [cellsOf, List.getElem?_map, List.getElem?_eq_getElem hj, Option.map_some, Option.some.injEq] at hu
    rw [hu]
theorem own_rd {W : World} {base g n cap : Nat} {l : List UInt8} (h : W.ownsRow base 5 1 (.slice (some ⟨g, 0, none⟩) n cap) n (cellsOf l)) : Rd W (some ⟨g, 0, none⟩) l := by
  refine .inr ⟨g, 0, rfl, fun j hj => ?_⟩
  have := h.cells (g := g) rfl j (.int .u8 (l[j].toNat : Int)) (by simp [cellsOf, List.getElem?_eq_getElem hj])
  have e1 : (⟨g, 0, none⟩ : Addr).add j = ⟨g, 0 + j, none⟩ := by
    unfold Addr.add
    split <;> simp_all
  rw [e1] at this
  exact this
theorem rd_prefix {W : World} {A : Option Addr} {p q : List UInt8} (h : Rd W A (p ++ q)) : Rd W A p := by
  rcases h with h | ⟨b, off, e, hc⟩
  · exact .inl (List.append_eq_nil_iff.1 h).1
  · refine .inr ⟨b, off, e, fun j hj => ?_⟩
    rw [hc j (by rw [List.length_append]; omega), List.getElem_append_left hj]
theorem Try_info5 : (Tryd.prog.info? 5).map (fun i => (i.zero, i.size, i.bytes)) = some (some (.int .u8 0), 1, 1) := by kernel_rfl
theorem own_base {W : World} {base n : Nat} {e : TypeId} {v : Value} {xs : List Value} (h : W.ownsRow base e 1 v n xs) : ∀ k, v.ownBlock = some k → base ≤ k := by
  intro k hk
  rcases h.2 with ⟨rfl, _⟩ | ⟨g', cap', cur, rfl, hg, _⟩
  · cases hk
  · cases hk; exact hg
/-- append of bytes that read as l, nil or not, to a slice of the call's own -/
theorem append_rd {w : World} {ops : Array Oper} {rest : List Oper} {o : Oper} {a : Act} {Q : Exit → Act → World → Prop} (hgd : o.guard = none) (s x : Operand)
    (ho : o.op = .call { callee := .builtin .append, args := #[s, x], argTypes := #[25, 25] })
    (base : Nat) (v : Value) (n : Nat) (xs : List UInt8) (hs : a.eval s = v) (hown : w.ownsRow base 5 1 v n (cellsOf xs))
    (A : Option Addr) (l : List UInt8) (m c : Nat) (hm : m = l.length) (hx : a.eval x = .slice A m c) (hr : Rd w A l) (hA : A = none → l = [] ∧ c = 0) (hb : n + m ≤ 140737488355328) (hbase : base ≤ w.heap.size)
    (h : ∀ v' w', w'.ownsRow base 5 1 v' (n + m) (cellsOf (xs ++ l)) → w.grownBy w' v.ownBlock → wpList Tryd.prog ops Q rest (a.put o.dst v') w') : wpList Tryd.prog ops Q (o :: rest) a w := by
  obtain ⟨i0, hi, hz0, hz1, hz2⟩ := info_parts Try_info5
  subst hm
  rcases A with _ | ad
  · obtain ⟨rfl, rfl⟩ := hA rfl
    refine wpList_append_own_none hgd s x 25 ho base 5 i0 1 Tryd.underlying25 hi v n (cellsOf xs) hs hown hx ?_
    refine h v w ?_ (World.grownBy.refl w _)
    rw [List.append_nil]
    exact hown
  · refine wpList_append_own w hgd s x 25 ho base 5 i0 (.int .u8 0) 1 1 Tryd.underlying25 hi hz0 hz1 hz2 rfl (by decide) v n (cellsOf xs) hs hown ad l.length c (cellsOf l) hx (by rw [cellsOf_length, Nat.mul_one]) (rd_cells hr) (cellsOf_one l) (by simp only [maxLen]; omega) (by omega) hbase ?_
    intro v' w' h1 h2 _
    rw [← cellsOf_append] at h1
    exact h v' w' h1 h2
theorem own_form {W : World} {base n : Nat} {e : TypeId} {v : Value} {xs : List Value} (h : W.ownsRow base e 1 v n xs) (hn : 1 ≤ n) : ∃ g cap, v = .slice (some ⟨g, 0, none⟩) n cap ∧ n ≤ cap ∧ cap ≤ maxLen := by
  rcases h.2 with ⟨_, h0⟩ | ⟨g, cap, cur, hv, _, _, h1, h2, _⟩
  · omega
  · exact ⟨g, cap, hv, h1, h2⟩
theorem Try_bytes5 : Tryd.prog.bytesOf 5 = 1 := by kernel_rfl
end Go.Proofs.YtdhlejhflkfoaaaDoor

/- Laws for a whole aggregate, by value, out of and into memory: load, store, alloc, build; what a step of a disk may turn. -/
namespace Go.Proofs.YtdhlejhflkfoaaaDoor
open Go.RowKit Go.Shelf
set_option linter.unusedVariables false
set_option maxRecDepth 100000

theorem addr_add (b o j : Nat) : (⟨b, o, none⟩ : Addr).add j = ⟨b, o + j, none⟩ := by
  unfold Addr.add
  split <;> simp_all

/-- the cells from an address on -/
def At (w : World) (b o : Nat) (cs : List Value) : Prop := ∀ j v, cs[j]? = some v → w.cell? ⟨b, o + j, none⟩ = some v
theorem At.of_cs {w : World} {g : Nat} {t : TypeId} {cur : Array Value} (h : Cs w g t cur) (o : Nat) (cs : List Value) (hc : ∀ j v, cs[j]? = some v → cur[o + j]? = some v) : At w g o cs :=
  fun j v hv => h.cell (o + j) (hc j v hv)
theorem At.whole {w : World} {g : Nat} {t : TypeId} {cs : List Value} (h : Cs w g t cs.toArray) : At w g 0 cs :=
  At.of_cs h 0 cs fun j v hv => by rw [Nat.zero_add]; simpa using hv
theorem At.same {w w' : World} {b o : Nat} {cs : List Value} (h : At w b o cs) (hb : w'.heap[b]? = w.heap[b]?) : At w' b o cs :=
  fun j v hv => (World.cell?_of_block (w := w) (a := ⟨b, o + j, none⟩) hb).trans (h j v hv)

section
variable {P : Program}
theorem run_loadVar_at (w : World) (ty : TypeId) (b o : Nat) (cs : List Value) (hc : At w b o cs) (d : TypeDesc) (hu : P.underlying ty = some d)
    (hd : (match d with | .struct _ | .array _ _ => true | _ => false) = true) (hi : (P.info? ty).map (·.size) = some cs.length) : (loadVar ty ⟨b, o, none⟩).run P w = .ok (.agg cs.toArray) w := by
  have hl : (loadCells ⟨b, o, none⟩ cs.length).run P w = .ok cs.toArray w := run_loadCells_list (P := P) w ⟨b, o, none⟩ cs (fun j v hv => by rw [addr_add]; exact hc j v hv)
  cases hq : P.info? ty with
  | none => simp [hq] at hi
  | some i =>
    have hs : i.size = cs.length := by simpa [hq] using hi
    have hagg : (isAgg ty).run P w = .ok true w := by
      unfold isAgg
      rw [Sem.run_bind, run_underlying hu w]
      cases d <;> simp_all
    simp [loadVar, Sem.run_bind, hagg, sizeOf, typeInfo, hq, hs, hl]
/-- what was laid over a row from o on -/
def over (cur : Array Value) (o : Nat) (cs : List Value) : Array Value := (cur.toList.take o ++ cs ++ cur.toList.drop (o + cs.length)).toArray
theorem over_size (cur : Array Value) (o : Nat) (cs : List Value) (h : o + cs.length ≤ cur.size) : (over cur o cs).size = cur.size := by
  simp [over]
  omega
theorem over_whole (cur : Array Value) (cs : List Value) (h : cs.length = cur.size) : over cur 0 cs = cs.toArray := by
  unfold over
  rw [List.take_zero, List.nil_append, Nat.zero_add, List.drop_eq_nil_of_le (by simp; omega), List.append_nil]
theorem over_in (cur : Array Value) (o : Nat) (cs : List Value) (h : o + cs.length ≤ cur.size) (j : Nat) (hj : j < cs.length) : (over cur o cs)[o + j]? = cs[j]? := by
  have e : (cur.toList.take o).length = o := by simp; omega
  simp only [over, List.getElem?_toArray]
  rw [List.append_assoc, List.getElem?_append_right (by omega), e, show o + j - o = j by omega, List.getElem?_append_left hj]
theorem over_out (cur : Array Value) (o : Nat) (cs : List Value) (h : o + cs.length ≤ cur.size) (j : Nat) (hj : j < o ∨ o + cs.length ≤ j) : (over cur o cs)[j]? = cur[j]? := by
  have e : (cur.toList.take o).length = o := by simp; omega
  simp only [over, List.getElem?_toArray]
  rcases hj with hj | hj
  · rw [List.append_assoc, List.getElem?_append_left (by omega), List.getElem?_take_of_lt hj]
    simp
  · rw [List.getElem?_append_right (by simp; omega), List.getElem?_drop]
    have e2 : (cur.toList.take o ++ cs).length = o + cs.length := by simp; omega
    rw [e2, show o + cs.length + (j - (o + cs.length)) = j by omega]
    simp
theorem run_storeVar_at (w : World) (ty : TypeId) (g o : Nat) (t : TypeId) (cur : Array Value) (cs : List Value) (hg : Cs w g t cur) (hfit : o + cs.length ≤ cur.size) (h1 : ∀ v ∈ cs, v.oneCell' = true)
    (hi : (P.info? ty).map (·.size) = some cs.length) : (storeVar ty ⟨g, o, none⟩ (.agg cs.toArray)).run P w = .ok () (w.setRow g (over cur o cs)) := by
  have hst := run_storeCells_at P g o t cs 0 cur w hg (by omega) h1
  cases hq : P.info? ty with
  | none => simp [hq] at hi
  | some i =>
    have hs : i.size = cs.length := by simpa [hq] using hi
    simp only [Nat.add_zero] at hst
    simp [storeVar, Sem.run_bind, sizeOf, typeInfo, hq, hs, Value.cells, hst, over]
theorem Cs.row {w : World} {g : Nat} {t : TypeId} {cur : Array Value} (h : Cs w g t cur) (new : Array Value) : Cs (w.setRow g new) g t new := setRow_heap w g cur new t (0, 0) h
theorem grown_row (w : World) (g : Nat) (new : Array Value) : w.grownBy (w.setRow g new) (some g) :=
  ⟨rfl, rfl, rfl, by simp, fun k _ hk => setRow_other w g k _ (fun e => hk (by rw [e]))⟩
variable {w : World} {ops : Array Oper} {rest : List Oper} {o : Oper} {a : Act} {Q : Exit → Act → World → Prop} {K : Act → World → Prop}
theorem wp_load_agg (ty : TypeId) (x : Operand) (ho : o.op = .load ty x) (b f : Nat) (hx : a.eval x = .pointer (some ⟨b, f, none⟩)) (cs : List Value) (hc : At w b f cs) (d : TypeDesc) (hu : P.underlying ty = some d)
    (hd : (match d with | .struct _ | .array _ _ => true | _ => false) = true) (hi : (P.info? ty).map (·.size) = some cs.length) (h : K (a.put o.dst (.agg cs.toArray)) w) : o.wp P a w K Q := by
  unfold Oper.wp execOp
  simp only [ho, hx, Instr.loadAt, Instr.sureAddr, Sem.run_bind, Sem.run_pure, Result.andThen_ok, run_loadVar_at w ty b f cs hc d hu hd hi]
  exact h
theorem wp_store_agg (ty : TypeId) (x y : Operand) (ho : o.op = .store ty x y) (g f : Nat) (hx : a.eval x = .pointer (some ⟨g, f, none⟩)) (cs : List Value) (hy : a.eval y = .agg cs.toArray) (t : TypeId) (cur : Array Value)
    (hg : Cs w g t cur) (hfit : f + cs.length ≤ cur.size) (h1 : ∀ v ∈ cs, v.oneCell' = true) (hi : (P.info? ty).map (·.size) = some cs.length)
    (h : K (a.put o.dst undef) (w.setRow g (over cur f cs))) : o.wp P a w K Q := by
  unfold Oper.wp execOp
  simp only [ho, hx, hy, Instr.storeAt, Instr.sureAddr, Sem.run_bind, Sem.run_pure, Result.andThen_ok, run_storeVar_at w ty g f t cur cs hg hfit h1 hi]
  exact h
theorem wp_alloc_agg (ty : TypeId) (ho : o.op = .alloc ty) (cs : List Value) (hz : ∀ w, (zeroValue ty).run P w = .ok (.agg cs.toArray) w)
    (h : K (a.put o.dst (.pointer (some ⟨w.heap.size, 0, none⟩))) (w.alloc (.cells cs.toArray ty))) : o.wp P a w K Q := by
  unfold Oper.wp execOp
  simp only [ho, Instr.alloc, hz, newVar, newRow, Value.cells, run_newObj, Sem.run_bind, Sem.run_pure, Result.andThen_ok]
  exact h
theorem wp_box_agg (ty : TypeId) (x : Operand) (ho : o.op = .box ty x) (cs : List Value) (hx : a.eval x = .agg cs.toArray)
    (h : K (a.put o.dst (.pointer (some ⟨w.heap.size, 0, none⟩))) (w.alloc (.cells cs.toArray ty))) : o.wp P a w K Q := by
  unfold Oper.wp execOp
  simp only [ho, hx, Instr.box, newVar, newRow, Value.cells, run_newObj, Sem.run_bind, Sem.run_pure, Result.andThen_ok]
  exact h
theorem wpList_load_agg (hgd : o.guard = none) (ty : TypeId) (x : Operand) (ho : o.op = .load ty x) (b f : Nat) (hx : a.eval x = .pointer (some ⟨b, f, none⟩)) (cs : List Value) (hc : At w b f cs) (d : TypeDesc) (hu : P.underlying ty = some d)
    (hd : (match d with | .struct _ | .array _ _ => true | _ => false) = true) (hi : (P.info? ty).map (·.size) = some cs.length) (h : wpList P ops Q rest (a.put o.dst (.agg cs.toArray)) w) : wpList P ops Q (o :: rest) a w :=
  wpList_plain hgd fun _ hK => wp_load_agg ty x ho b f hx cs hc d hu hd hi (hK _ _ h)
theorem wpList_store_agg (hgd : o.guard = none) (ty : TypeId) (x y : Operand) (ho : o.op = .store ty x y) (g f : Nat) (hx : a.eval x = .pointer (some ⟨g, f, none⟩)) (cs : List Value) (hy : a.eval y = .agg cs.toArray) (t : TypeId) (cur : Array Value)
    (hg : Cs w g t cur) (hfit : f + cs.length ≤ cur.size) (h1 : ∀ v ∈ cs, v.oneCell' = true) (hi : (P.info? ty).map (·.size) = some cs.length)
    (h : wpList P ops Q rest (a.put o.dst undef) (w.setRow g (over cur f cs))) : wpList P ops Q (o :: rest) a w :=
  wpList_plain hgd fun _ hK => wp_store_agg ty x y ho g f hx cs hy t cur hg hfit h1 hi (hK _ _ h)
theorem wpList_alloc_agg (hgd : o.guard = none) (ty : TypeId) (ho : o.op = .alloc ty) (cs : List Value) (hz : ∀ w, (zeroValue ty).run P w = .ok (.agg cs.toArray) w)
    (h : wpList P ops Q rest (a.put o.dst (.pointer (some ⟨w.heap.size, 0, none⟩))) (w.alloc (.cells cs.toArray ty))) : wpList P ops Q (o :: rest) a w :=
  wpList_plain hgd fun _ hK => wp_alloc_agg ty ho cs hz (hK _ _ h)
theorem wpList_box_agg (hgd : o.guard = none) (ty : TypeId) (x : Operand) (ho : o.op = .box ty x) (cs : List Value) (hx : a.eval x = .agg cs.toArray)
    (h : wpList P ops Q rest (a.put o.dst (.pointer (some ⟨w.heap.size, 0, none⟩))) (w.alloc (.cells cs.toArray ty))) : wpList P ops Q (o :: rest) a w :=
  wpList_plain hgd fun _ hK => wp_box_agg ty x ho cs hx (hK _ _ h)
/-- the results, the first out of a variable of its own -/
theorem results_agg_tmp {fn : Func} {p u : Tmp} {ty : TypeId} (h : fn.results = #[.cell p ty, .tmp u]) (tmps : Array Value) (w : World) (b f : Nat) (cs : List Value) (hp : tmps.getD p undef = .pointer (some ⟨b, f, none⟩)) (hc : At w b f cs)
    (d : TypeDesc) (hu : P.underlying ty = some d) (hd : (match d with | .struct _ | .array _ _ => true | _ => false) = true) (hi : (P.info? ty).map (·.size) = some cs.length) :
    (results fn tmps).run P w = .ok (.tuple #[.agg cs.toArray, tmps.getD u undef]) w := by
  rw [results_cell_tmp h, hp]
  simp [asAddr, run_loadVar_at w ty b f cs hc d hu hd hi]
theorem results_agg {fn : Func} {p : Tmp} {ty : TypeId} (h : fn.results = #[.cell p ty]) (tmps : Array Value) (w : World) (b f : Nat) (cs : List Value) (hp : tmps.getD p undef = .pointer (some ⟨b, f, none⟩)) (hc : At w b f cs)
    (d : TypeDesc) (hu : P.underlying ty = some d) (hd : (match d with | .struct _ | .array _ _ => true | _ => false) = true) (hi : (P.info? ty).map (·.size) = some cs.length) :
    (results fn tmps).run P w = .ok (.agg cs.toArray) w := by
  have hp' : tmps[p]?.getD undef = .pointer (some ⟨b, f, none⟩) := by simpa using hp
  simp [results, h, hp', asAddr, run_loadVar_at w ty b f cs hc d hu hd hi]
end

/-- a step that turns no block that was there but those of F -/
structure Turn (w w' : World) (F : Nat → Prop) : Prop where
  os : w'.os = w.os
  tape : w'.tape = w.tape
  output : w'.output = w.output
  size : w.heap.size ≤ w'.heap.size
  block : ∀ k, k < w.heap.size → ¬ F k → w'.heap[k]? = w.heap[k]?
theorem Turn.refl (w : World) (F : Nat → Prop) : Turn w w F := ⟨rfl, rfl, rfl, Nat.le_refl _, fun _ _ _ => rfl⟩
theorem Turn.trans {a b c : World} {F G : Nat → Prop} (h : Turn a b F) (k : Turn b c G) (hG : ∀ i, i < a.heap.size → G i → F i) : Turn a c F :=
  ⟨k.os.trans h.os, k.tape.trans h.tape, k.output.trans h.output, Nat.le_trans h.size k.size, fun i hi hf => (k.block i (Nat.lt_of_lt_of_le hi h.size) (fun hg => hf (hG i hi hg))).trans (h.block i hi hf)⟩
theorem Turn.mono {a b : World} {F G : Nat → Prop} (h : Turn a b F) (hG : ∀ i, i < a.heap.size → F i → G i) : Turn a b G := ⟨h.os, h.tape, h.output, h.size, fun i hi hf => h.block i hi fun hh => hf (hG i hi hh)⟩
theorem Turn.of_grown {w w' : World} {row : Option Nat} (h : w.grownBy w' row) : Turn w w' fun k => row = some k := ⟨h.os, h.tape, h.output, h.size, fun k hk hf => h.block k hk fun e => hf e.symm⟩
theorem Turn.of_below {w w' : World} (h : Below w.heap.size w w') (F : Nat → Prop) : Turn w w' F := ⟨h.os, h.tape, h.output, h.size, fun k hk _ => h.block k hk⟩
theorem Turn.below {w w' : World} {F : Nat → Prop} {B : Nat} (h : Turn w w' F) (hB : B ≤ w.heap.size) (hF : ∀ k, F k → B ≤ k) : Below B w w' :=
  ⟨h.os, h.tape, h.output, h.size, fun k hk => h.block k (by omega) fun hf => by have := hF k hf; omega⟩
theorem Turn.alloc (w : World) (o : Obj) (F : Nat → Prop) : Turn w (w.alloc o) F := Turn.of_below ((Below.refl _ _).alloc (Nat.le_refl _) o) F
theorem Turn.drew (w : World) (F : Nat → Prop) : Turn w w.drew F := Turn.of_below (Below.refl _ _).drew F
theorem Cs.turn {w w' : World} {F : Nat → Prop} {g : Nat} {t : TypeId} {cs : Array Value} (h : Cs w g t cs) (ht : Turn w w' F) (hF : ¬ F g) : Cs w' g t cs := (ht.block g h.lt hF).trans h
theorem ownsMap_turn {H : Type} {P : Program} {k : TypeId} {R : Value → Option (DataW H × List MemPlace)} {w w' : World} {F : Nat → Prop} {b n : Nat} {D : DataW H} (h : w.ownsMap P k R b n D) (ht : Turn w w' F) (hF : ¬ F b) : w'.ownsMap P k R b n D := by
  have hlt := h.lt
  obtain ⟨es, clock, hb, r⟩ := h
  exact ⟨es, clock, (ht.block b hlt hF).trans hb, r⟩
end Go.Proofs.YtdhlejhflkfoaaaDoor

/- The shared reference: Same, Copy, Wide, Left. -/
namespace Go.Proofs.YtdhlejhflkfoaaaDoor
open Go.RowKit Go.Shelf
set_option linter.unusedVariables false
set_option maxRecDepth 100000

theorem Same_any (A B : Option Addr) (p q : List UInt8) (ca cb : Nat) (w : World) (hA : Rd w A p) (hB : Rd w B q) :
    Calls Tryd.prog 32 #[.slice A p.length ca, .slice B q.length cb] w fun e w' => e = .returned (.bool (p == q)) ∧ w = w' := by
  have k1 := conv_rd hA ca
  have k2 := conv_rd hB cb
  clear hA hB
  go_enter Tryd.func32, Tryd.ntmps32
  go_wp2
  go_ret
  exact ⟨rfl, rfl⟩
end Go.Proofs.YtdhlejhflkfoaaaDoor

/- Lists of lists of bytes: a value that reads as bytes and lies in given blocks, a slice that reads as lists; the reference's Lists. -/
namespace Go.Proofs.YtdhlejhflkfoaaaDoor
open Go.RowKit Go.Shelf
set_option linter.unusedVariables false
set_option maxRecDepth 100000

theorem Rd.turn {w w' : World} {G : Nat → Prop} {A : Option Addr} {l : List UInt8} (h : Rd w A l) (ht : Turn w w' G) (hG : ∀ a, A = some a → ¬ G a.block) : Rd w' A l := by
  rcases h with h | ⟨b, off, rfl, hc⟩
  · exact .inl h
  · exact .inr ⟨b, off, rfl, fun j hj => (World.cell?_of_block (w := w) (ht.block b (lt_of_cell (hc j hj)) (hG _ rfl))).trans (hc j hj)⟩
/-- the slice at A reads as l; its bytes, if it has any, lie in F -/
def RdF (w : World) (F : Nat → Prop) (A : Option Addr) (l : List UInt8) : Prop := l = [] ∨ ∃ b off, A = some ⟨b, off, none⟩ ∧ F b ∧ ∀ j (h : j < l.length), w.cell? ⟨b, off + j, none⟩ = some (.int .u8 (l[j].toNat : Int))
theorem RdF.rd {w : World} {F : Nat → Prop} {A : Option Addr} {l : List UInt8} (h : RdF w F A l) : Rd w A l := by
  rcases h with h | ⟨b, off, e, _, hc⟩
  · exact .inl h
  · exact .inr ⟨b, off, e, hc⟩
theorem Rd.f {w : World} {F : Nat → Prop} {A : Option Addr} {l : List UInt8} (h : Rd w A l) (hF : ∀ b off, A = some ⟨b, off, none⟩ → b < w.heap.size → F b) : RdF w F A l := by
  by_cases h0 : l = []
  · exact .inl h0
  rcases h with h | ⟨b, off, e, hc⟩
  · exact .inl h
  · have hp : 0 < l.length := by
      cases l with
      | nil => exact absurd rfl h0
      | cons y l => simp
    exact .inr ⟨b, off, e, hF b off e (lt_of_cell (hc 0 hp)), hc⟩
/-- v is a slice that reads as l; its bytes, if it has any, lie in F -/
def BsV (w : World) (F : Nat → Prop) (v : Value) (l : List UInt8) : Prop := ∃ A c, v = .slice A l.length c ∧ RdF w F A l ∧ (A = none → l = [] ∧ c = 0) ∧ l.length ≤ c ∧ c ≤ maxLen
theorem BsV.turn {w w' : World} {F G : Nat → Prop} {v : Value} {l : List UInt8} (h : BsV w F v l) (ht : Turn w w' G) (hG : ∀ k, F k → ¬ G k) : BsV w' F v l := by
  obtain ⟨A, c, h1, h2, h3, h4, h5⟩ := h
  refine ⟨A, c, h1, ?_, h3, h4, h5⟩
  by_cases h0 : l = []
  · exact .inl h0
  rcases h2 with h | ⟨b, off, e, hb, hc⟩
  · exact .inl h
  · exact .inr ⟨b, off, e, hb, fun j hj => (World.cell?_of_block (w := w) (ht.block b (lt_of_cell (hc j hj)) (hG _ hb))).trans (hc j hj)⟩
theorem BsV.below {w w' : World} {F : Nat → Prop} {v : Value} {l : List UInt8} (h : BsV w F v l) (hb : Below w.heap.size w w') : BsV w' F v l := h.turn (Turn.of_below hb fun _ => False) fun _ _ h => h
theorem BsV.mono {w : World} {F G : Nat → Prop} {v : Value} {l : List UInt8} (h : BsV w F v l) (hF : ∀ k, k < w.heap.size → F k → G k) : BsV w G v l := by
  obtain ⟨A, c, h1, h2, h3, h4, h5⟩ := h
  refine ⟨A, c, h1, ?_, h3, h4, h5⟩
  rcases h2 with h | ⟨b, off, e, hb, hc⟩
  · exact .inl h
  · refine Rd.f (.inr ⟨b, off, e, hc⟩) fun b' off' e' hlt => hF b' hlt ?_
    rw [e] at e'
    cases e'
    exact hb
theorem BsV.nil (w : World) (F : Nat → Prop) : BsV w F (.slice none 0 0) [] := ⟨none, 0, rfl, .inl rfl, fun _ => ⟨rfl, rfl⟩, Nat.le_refl _, Nat.zero_le _⟩
theorem BsV.one {w : World} {F : Nat → Prop} {v : Value} {l : List UInt8} (h : BsV w F v l) : v.oneCell' = true := by
  obtain ⟨A, c, rfl, _⟩ := h
  rfl
/-- what is owned reads -/
theorem BsV.own {w : World} {base : Nat} {v : Value} {l : List UInt8} (h : w.ownsRow base 5 1 v l.length (cellsOf l)) : BsV w (base ≤ ·) v l := by
  rcases h.2 with ⟨rfl, h0⟩ | ⟨g, cap, cur, hv, hb, hg, h1, h2, _⟩
  · have : l = [] := List.eq_nil_of_length_eq_zero h0
    subst this
    exact BsV.nil _ _
  · subst hv
    exact ⟨some ⟨g, 0, none⟩, cap, rfl, (own_rd h).f (fun b off e _ => by cases e; exact hb), (fun h => by cases h), h1, h2⟩
/-- the values vs read as the lists ls -/
def BsL (w : World) (F : Nat → Prop) (vs : List Value) (ls : List (List UInt8)) : Prop := vs.length = ls.length ∧ ∀ j (h : j < ls.length), ∃ v, vs[j]? = some v ∧ BsV w F v ls[j]
theorem BsL.nil (w : World) (F : Nat → Prop) : BsL w F [] [] := ⟨rfl, fun j h => by simp at h⟩
theorem BsL.turn {w w' : World} {F G : Nat → Prop} {vs : List Value} {ls : List (List UInt8)} (h : BsL w F vs ls) (ht : Turn w w' G) (hG : ∀ k, F k → ¬ G k) : BsL w' F vs ls :=
  ⟨h.1, fun j hj => by obtain ⟨v, h1, h2⟩ := h.2 j hj; exact ⟨v, h1, h2.turn ht hG⟩⟩
theorem BsL.below {w w' : World} {F : Nat → Prop} {vs : List Value} {ls : List (List UInt8)} (h : BsL w F vs ls) (hb : Below w.heap.size w w') : BsL w' F vs ls := h.turn (Turn.of_below hb fun _ => False) fun _ _ h => h
theorem BsL.mono {w : World} {F G : Nat → Prop} {vs : List Value} {ls : List (List UInt8)} (h : BsL w F vs ls) (hF : ∀ k, k < w.heap.size → F k → G k) : BsL w G vs ls :=
  ⟨h.1, fun j hj => by obtain ⟨v, h1, h2⟩ := h.2 j hj; exact ⟨v, h1, h2.mono hF⟩⟩
theorem BsL.append {w : World} {F : Nat → Prop} {vs us : List Value} {ls ms : List (List UInt8)} (h : BsL w F vs ls) (hu : BsL w F us ms) : BsL w F (vs ++ us) (ls ++ ms) := by
  refine ⟨by simp [h.1, hu.1], fun j hj => ?_⟩
  by_cases hk : j < ls.length
  · obtain ⟨u, h1, h2⟩ := h.2 j hk
    exact ⟨u, by rw [List.getElem?_append_left (by rw [h.1]; exact hk)]; exact h1, by rw [List.getElem_append_left hk]; exact h2⟩
  · simp only [List.length_append] at hj
    obtain ⟨u, h1, h2⟩ := hu.2 (j - ls.length) (by omega)
    exact ⟨u, by rw [List.getElem?_append_right (by rw [h.1]; omega), h.1]; exact h1, by rw [List.getElem_append_right (by omega)]; exact h2⟩
/-- A slice at A reads as the lists ls, each in F. -/
def RdR (w : World) (F : Nat → Prop) (A : Option Addr) (ls : List (List UInt8)) : Prop :=
  ls = [] ∨ ∃ b off vs, A = some ⟨b, off, none⟩ ∧ F b ∧ BsL w F vs ls ∧ ∀ j v, vs[j]? = some v → w.cell? ⟨b, off + j, none⟩ = some v
theorem RdR.turn {w w' : World} {F G : Nat → Prop} {A : Option Addr} {ls : List (List UInt8)} (h : RdR w F A ls) (ht : Turn w w' G) (hG : ∀ k, F k → ¬ G k) : RdR w' F A ls := by
  rcases h with h | ⟨b, off, vs, e, hF, hl, hc⟩
  · exact .inl h
  · exact .inr ⟨b, off, vs, e, hF, hl.turn ht hG, fun j v hv => (World.cell?_of_block (w := w) (ht.block b (lt_of_cell (hc j v hv)) (hG _ hF))).trans (hc j v hv)⟩
theorem RdR.below {w w' : World} {F : Nat → Prop} {A : Option Addr} {ls : List (List UInt8)} (h : RdR w F A ls) (hb : Below w.heap.size w w') : RdR w' F A ls := h.turn (Turn.of_below hb fun _ => False) fun _ _ h => h
theorem RdR.mono {w : World} {F G : Nat → Prop} {A : Option Addr} {ls : List (List UInt8)} (h : RdR w F A ls) (hF : ∀ k, F k → G k) : RdR w G A ls := by
  rcases h with h | ⟨b, off, vs, e, h1, hl, hc⟩
  · exact .inl h
  · exact .inr ⟨b, off, vs, e, hF _ h1, hl.mono fun k _ => hF k, hc⟩
theorem RdR.get {w : World} {F : Nat → Prop} {A : Option Addr} {ls : List (List UInt8)} (h : RdR w F A ls) (j : Nat) (hj : j < ls.length) : ∃ b off A' c, A = some ⟨b, off, none⟩ ∧ w.cell? ⟨b, off + j, none⟩ = some (.slice A' ls[j].length c) ∧ RdF w F A' ls[j] ∧ (A' = none → ls[j] = [] ∧ c = 0) ∧ ls[j].length ≤ c ∧ c ≤ maxLen := by
  rcases h with h | ⟨b, off, vs, e, h1, hl, hc⟩
  · rw [h] at hj; simp at hj
  · obtain ⟨v, hv, A', c, rfl, h2⟩ := hl.2 j hj
    exact ⟨b, off, A', c, e, hc j _ hv, h2⟩
/-- an owned row of slices that read; the row is in F, and so are the bytes, which are not in the row -/
structure OwnR (w : World) (base : Nat) (F : Nat → Prop) (v : Value) (ls : List (List UInt8)) : Prop where
  row : ∃ vs, w.ownsRow base 25 1 v ls.length vs ∧ BsL w (fun k => F k ∧ v.ownBlock ≠ some k) vs ls
  sub : ∀ k, v.ownBlock = some k → F k
theorem OwnR.nil (w : World) (base : Nat) (F : Nat → Prop) : OwnR w base F (.slice none 0 0) [] := ⟨⟨[], World.ownsRow_nil _ _ _ _, BsL.nil _ _⟩, fun k h => by cases h⟩
theorem ownsRow_turn' {w w' : World} {G : Nat → Prop} {base n size : Nat} {e : TypeId} {v : Value} {xs : List Value} (h : w.ownsRow base e size v n xs) (ht : Turn w w' G) (hG : ∀ k, v.ownBlock = some k → ¬ G k) : w'.ownsRow base e size v n xs := by
  refine ⟨h.1, ?_⟩
  rcases h.2 with h | ⟨g, cap, cur, hv, hb, hg, r⟩
  · exact .inl h
  · exact .inr ⟨g, cap, cur, hv, hb, (ht.block g (Array.getElem?_eq_some_iff.1 hg).1 (hG g (by rw [hv]; rfl))).trans hg, r⟩
theorem OwnR.turn {w w' : World} {base : Nat} {F G : Nat → Prop} {v : Value} {ls : List (List UInt8)} (h : OwnR w base F v ls) (ht : Turn w w' G) (hG : ∀ k, F k → ¬ G k) : OwnR w' base F v ls := by
  obtain ⟨⟨vs, h1, h2⟩, h3⟩ := h
  exact ⟨⟨vs, ownsRow_turn' h1 ht fun k hk => hG k (h3 k hk), h2.turn ht fun k hk => hG k hk.1⟩, h3⟩
theorem OwnR.below {w w' : World} {base : Nat} {F : Nat → Prop} {v : Value} {ls : List (List UInt8)} (h : OwnR w base F v ls) (hb : Below w.heap.size w w') : OwnR w' base F v ls := h.turn (Turn.of_below hb fun _ => False) fun _ _ h => h
theorem OwnR.mono {w : World} {base : Nat} {F G : Nat → Prop} {v : Value} {ls : List (List UInt8)} (h : OwnR w base F v ls) (hF : ∀ k, k < w.heap.size → F k → G k) : OwnR w base G v ls := by
  obtain ⟨⟨vs, h1, h2⟩, h3⟩ := h
  exact ⟨⟨vs, h1, h2.mono fun k hk h => ⟨hF k hk h.1, h.2⟩⟩, fun k hk => hF k (h1.lt k hk).2 (h3 k hk)⟩
theorem OwnR.lt {w : World} {base : Nat} {F : Nat → Prop} {v : Value} {ls : List (List UInt8)} (h : OwnR w base F v ls) : ∀ k, v.ownBlock = some k → base ≤ k ∧ k < w.heap.size := by
  obtain ⟨⟨vs, h1, h2⟩, h3⟩ := h
  exact h1.lt
theorem OwnR.one {w : World} {base : Nat} {F : Nat → Prop} {v : Value} {ls : List (List UInt8)} (h : OwnR w base F v ls) : v.oneCell' = true := by
  obtain ⟨⟨vs, h1, h2⟩, h3⟩ := h
  rcases h1.2 with ⟨rfl, _⟩ | ⟨g, cap, cur, rfl, _⟩ <;> rfl
theorem OwnR.form {w : World} {base : Nat} {F : Nat → Prop} {v : Value} {ls : List (List UInt8)} (h : OwnR w base F v ls) : ∃ A c, v = .slice A ls.length c ∧ RdR w F A ls ∧ ls.length ≤ c ∧ c ≤ maxLen ∧ (A = none → ls = [] ∧ c = 0) := by
  obtain ⟨⟨vs, h1, h2⟩, h3⟩ := h
  rcases h1.2 with ⟨rfl, h0⟩ | ⟨g, cap, cur, hv, hb, hg, hc, hm, r⟩
  · have : ls = [] := List.eq_nil_of_length_eq_zero h0
    subst this
    exact ⟨none, 0, rfl, .inl rfl, Nat.le_refl _, Nat.zero_le _, fun _ => ⟨rfl, rfl⟩⟩
  · subst hv
    refine ⟨some ⟨g, 0, none⟩, cap, rfl, .inr ⟨g, 0, vs, rfl, h3 g rfl, h2.mono fun k _ h => h.1, fun j u hu => ?_⟩, hc, hm, fun h => by cases h⟩
    have := h1.cells (g := g) rfl j u hu
    have e1 : (⟨g, 0, none⟩ : Addr).add j = ⟨g, 0 + j, none⟩ := by
      unfold Addr.add
      split <;> simp_all
    rw [e1] at this
    exact this

def SameR (p q : List (List UInt8)) (k : Nat) : Prop := k ≤ p.length ∧ p.take k = q.take k
theorem SameR.next {p q : List (List UInt8)} {k : Nat} (h : SameR p q k) (hk : k < p.length) (hq : k < q.length) (e : (p[k] == q[k]) = true) : SameR p q (k + 1) := by
  refine ⟨hk, ?_⟩
  rw [List.take_succ_eq_append_getElem hk, List.take_succ_eq_append_getElem hq, h.2, eq_of_beq e]
theorem SameR.over {p q : List (List UInt8)} {k : Nat} (h : SameR p q k) (hk : ¬ k < p.length) (hl : p.length = q.length) : (p == q) = true := by
  have h1 := h.2
  rw [List.take_of_length_le (by omega), List.take_of_length_le (by omega)] at h1
  subst h1
  simp
end Go.Proofs.YtdhlejhflkfoaaaDoor

/- A disk as plain data: what is laid, what waits, and what each deed makes of it. No program. -/
namespace Go.Proofs.YtdhlejhflkfoaaaDoor
set_option linter.unusedVariables false
set_option maxRecDepth 100000

abbrev Blk := List UInt8
abbrev Tab := Int → Option Blk
def none' : Tab := fun _ => none
def upd (f : Tab) (k : Int) (l : Blk) : Tab := fun i => if i = k then some l else f i
structure DS where
  blocks : Nat
  laid : Tab
  young : Tab
  q : List (Int × Blk)
  steps : Nat
  left : Nat
  dark : Bool
def fresh (n : Nat) : DS := ⟨n, none', none', [], 0, 0, false⟩
end Go.Proofs.YtdhlejhflkfoaaaDoor

/- A block of 64 bytes as one value, without the disk: its zero, load, store, box, comparison; a piece of it, laid by copy. -/
namespace Go.Proofs.YtdhlejhflkfoaaaDoor
open Go.RowKit Go.Shelf
set_option linter.unusedVariables false
set_option maxRecDepth 100000

def isU8 : Value → Bool
  | .int .u8 a => decide (0 ≤ a) && decide (a < 256)
  | _ => false
def byteOf : Value → UInt8
  | .int _ a => UInt8.ofNat a.toNat
  | _ => 0
theorem cells_byte : ∀ cs : List Value, cs.all isU8 = true → cellsOf (cs.map byteOf) = cs
  | [], _ => rfl
  | v :: cs, h => by
    rw [List.all_cons, Bool.and_eq_true] at h
    rw [List.map_cons]
    show _ :: cellsOf (cs.map byteOf) = _
    rw [cells_byte cs h.2]
    congr 1
    have hv := h.1
    unfold isU8 at hv
    split at hv
    · rename_i a
      simp only [Bool.and_eq_true, decide_eq_true_eq] at hv
      simp only [byteOf]
      congr 1
      rw [UInt8.toNat_ofNat']
      omega
    · cases hv
theorem cells_u8 (l : List UInt8) : (cellsOf l).all isU8 = true := by
  unfold cellsOf
  rw [List.all_map, List.all_eq_true]
  intro c _
  have := c.toNat_lt
  simp [isU8]
  omega
section
variable {w : World} {ops : Array Oper} {rest : List Oper} {o : Oper} {a : Act} {Q : Exit → Act → World → Prop} {K : Act → World → Prop}
end
section
variable {P : Program} {w : World} {ops : Array Oper} {rest : List Oper} {o : Oper} {a : Act} {Q : Exit → Act → World → Prop} {K : Act → World → Prop} {v : Value}
end
section
variable {w : World} {ops : Array Oper} {rest : List Oper} {o : Oper} {a : Act} {Q : Exit → Act → World → Prop} {K : Act → World → Prop}
end
end Go.Proofs.YtdhlejhflkfoaaaDoor

/- Laws for variables of a small struct: made, stored whole, loaded whole, one cell stored; the world as a relation. -/
namespace Go.Proofs.YtdhlejhflkfoaaaDoor
open Go.RowKit Go.Shelf
set_option linter.unusedVariables false
set_option maxRecDepth 100000
set_option linter.unusedSimpArgs false

theorem Cs.ne {w : World} {g g' : Nat} {t t' : TypeId} {cs cs' : Array Value} (h : Cs w g t cs) (k : Cs w g' t' cs') (ht : t ≠ t') : g ≠ g' := by
  rintro rfl
  unfold Cs at h k
  rw [h] at k
  cases k
  exact ht rfl
theorem Cs.own {w w' : World} {g base n size : Nat} {t e : TypeId} {cs : Array Value} {v : Value} {xs : List Value} (h : Cs w g t cs) (hg : w.grownBy w' v.ownBlock) (ho : w.ownsRow base e size v n xs) (ht : t ≠ e) : Cs w' g t cs := by
  refine h.turn (Turn.of_grown hg) fun e1 => ?_
  rcases ho.2 with ⟨rfl, _⟩ | ⟨g', cap', cur, rfl, _, hg', _⟩
  · cases e1
  · have : g' = g := by simpa [Value.ownBlock] using e1
    subst this
    exact Cs.ne h (show Cs w g' e cur from hg') ht rfl
theorem below_turn {B g : Nat} {w w1 w' : World} (hb : Below B w w1) (ht : Turn w1 w' (· = g)) (hs : B ≤ w1.heap.size) (hg : B ≤ g) : Below B w w' := hb.trans (ht.below hs fun k e => by omega)

section
variable {P : Program} {w : World} {ops : Array Oper} {rest : List Oper} {o : Oper} {a : Act} {Q : Exit → Act → World → Prop}
theorem wpList_allocS (hgd : o.guard = none) (t : TypeId) (ho : o.op = .alloc t) (cs : List Value) (hz : ∀ w, (zeroValue t).run P w = .ok (.agg cs.toArray) w)
    (hK : ∀ g w', Cs w' g t cs.toArray → Below w.heap.size w w' → w.heap.size ≤ g → wpList P ops Q rest (a.put o.dst (.pointer (some ⟨g, 0, none⟩))) w') : wpList P ops Q (o :: rest) a w :=
  wpList_alloc_agg hgd t ho cs hz (hK _ _ (Cs.new _ _ _) ((Below.refl _ _).alloc (Nat.le_refl _) _) (Nat.le_refl _))
theorem wp_allocS {K : Act → World → Prop} (t : TypeId) (ho : o.op = .alloc t) (cs : List Value) (hz : ∀ w, (zeroValue t).run P w = .ok (.agg cs.toArray) w)
    (hK : ∀ g w', Cs w' g t cs.toArray → Below w.heap.size w w' → w.heap.size ≤ g → K (a.put o.dst (.pointer (some ⟨g, 0, none⟩))) w') : o.wp P a w K Q :=
  wp_alloc_agg t ho cs hz (hK _ _ (Cs.new _ _ _) ((Below.refl _ _).alloc (Nat.le_refl _) _) (Nat.le_refl _))
theorem wpList_boxS (hgd : o.guard = none) (t : TypeId) (x : Operand) (ho : o.op = .box t x) (cs : List Value) (hx : a.eval x = .agg cs.toArray)
    (hK : ∀ g w', Cs w' g t cs.toArray → Below w.heap.size w w' → w.heap.size ≤ g → wpList P ops Q rest (a.put o.dst (.pointer (some ⟨g, 0, none⟩))) w') : wpList P ops Q (o :: rest) a w :=
  wpList_box_agg hgd t x ho cs hx (hK _ _ (Cs.new _ _ _) ((Below.refl _ _).alloc (Nat.le_refl _) _) (Nat.le_refl _))
theorem wpList_storeS (hgd : o.guard = none) (t : TypeId) (x y : Operand) (ho : o.op = .store t x y) (g : Nat) (hx : a.eval x = .pointer (some ⟨g, 0, none⟩)) (cs cur : List Value) (hy : a.eval y = .agg cs.toArray)
    (hg : Cs w g t cur.toArray) (hl : cs.length = cur.length) (h1 : ∀ v ∈ cs, v.oneCell' = true) (hi : (P.info? t).map (·.size) = some cs.length)
    (hK : ∀ w', Cs w' g t cs.toArray → Turn w w' (· = g) → wpList P ops Q rest (a.put o.dst undef) w') : wpList P ops Q (o :: rest) a w :=
  wpList_store_agg hgd t x y ho g 0 hx cs hy t cur.toArray hg (by simp; omega) h1 hi (hK _ (by
    have := hg.row (over cur.toArray 0 cs)
    rwa [over_whole _ _ (by simpa using hl)] at this ⊢) ((Turn.of_grown (grown_row w g _)).mono fun k _ e => by injection e with e; exact e.symm))
theorem wpList_loadS (hgd : o.guard = none) (t : TypeId) (x : Operand) (ho : o.op = .load t x) (g : Nat) (hx : a.eval x = .pointer (some ⟨g, 0, none⟩)) (cs : List Value) (hg : Cs w g t cs.toArray) (d : TypeDesc) (hu : P.underlying t = some d)
    (hd : (match d with | .struct _ | .array _ _ => true | _ => false) = true) (hi : (P.info? t).map (·.size) = some cs.length) (h : wpList P ops Q rest (a.put o.dst (.agg cs.toArray)) w) : wpList P ops Q (o :: rest) a w :=
  wpList_load_agg hgd t x ho g 0 hx cs (At.whole hg) d hu hd hi h
theorem over_one (cur : Array Value) (i : Nat) (v : Value) (h : i < cur.size) : over cur i [v] = cur.setIfInBounds i v := by
  apply Array.ext_getElem?
  intro j
  by_cases e : j = i
  · subst e
    have := over_in cur j [v] (by simp; omega) 0 (by simp)
    rw [Nat.add_zero] at this
    rw [this, Array.getElem?_setIfInBounds_self_of_lt h]
    rfl
  · rw [over_out cur i [v] (by simp; omega) j (by simp; omega), Array.getElem?_setIfInBounds_ne (Ne.symm e)]
theorem cells_single {v : Value} (h : v.oneCell' = true) : v.cells = #[v] := by cases v <;> first | rfl | cases h
theorem run_storeVar_one (w : World) (ty : TypeId) (g i : Nat) (t : TypeId) (cur : Array Value) (v : Value) (hg : Cs w g t cur) (hlt : i < cur.size) (h1 : v.oneCell' = true) (hi : (P.info? ty).map (·.size) = some 1) : (storeVar ty ⟨g, i, none⟩ v).run P w = .ok () (w.setRow g (cur.setIfInBounds i v)) := by
  have hst := run_storeCells_at P g i t [v] 0 cur w hg (by simp; omega) (by simpa using h1)
  cases hq : P.info? ty with
  | none => simp [hq] at hi
  | some x =>
    have hs : x.size = 1 := by simpa [hq] using hi
    simp only [Nat.add_zero] at hst
    have ho := over_one cur i v hlt
    unfold over at ho
    rw [ho] at hst
    simp [storeVar, Sem.run_bind, sizeOf, typeInfo, hq, hs, cells_single h1, hst]
/-- one cell of a variable, stored -/
theorem wpList_store1 (hgd : o.guard = none) (ty : TypeId) (x y : Operand) (ho : o.op = .store ty x y) (g i : Nat) (hx : a.eval x = .pointer (some ⟨g, i, none⟩)) (v : Value) (hy : a.eval y = v) (h1 : v.oneCell' = true) (hi : (P.info? ty).map (·.size) = some 1)
    (t : TypeId) (cur : Array Value) (hg : Cs w g t cur) (hlt : i < cur.size)
    (hK : ∀ w', Cs w' g t (cur.setIfInBounds i v) → Turn w w' (· = g) → wpList P ops Q rest (a.put o.dst undef) w') : wpList P ops Q (o :: rest) a w := by
  refine wpList_plain hgd fun K hh => ?_
  unfold Oper.wp execOp
  simp only [ho, hx, hy, Instr.storeAt, Instr.sureAddr, Sem.run_bind, Sem.run_pure, Result.andThen_ok, run_storeVar_one w ty g i t cur v hg hlt h1 hi]
  exact hh _ _ (hK _ (hg.row _) ((Turn.of_grown (grown_row w g _)).mono fun k _ e => by injection e with e; exact e.symm))
/-- .. as a step of a region that draws its order, or of a run -/
theorem wp_store1 {K : Act → World → Prop} (ty : TypeId) (x y : Operand) (ho : o.op = .store ty x y) (g i : Nat) (hx : a.eval x = .pointer (some ⟨g, i, none⟩)) (v : Value) (hy : a.eval y = v) (h1 : v.oneCell' = true) (hi : (P.info? ty).map (·.size) = some 1)
    (t : TypeId) (cur : Array Value) (hg : Cs w g t cur) (hlt : i < cur.size)
    (hK : ∀ w', Cs w' g t (cur.setIfInBounds i v) → Turn w w' (· = g) → K (a.put o.dst undef) w') : o.wp P a w K Q := by
  unfold Oper.wp execOp
  simp only [ho, hx, hy, Instr.storeAt, Instr.sureAddr, Sem.run_bind, Sem.run_pure, Result.andThen_ok, run_storeVar_one w ty g i t cur v hg hlt h1 hi]
  exact hK _ (hg.row _) ((Turn.of_grown (grown_row w g _)).mono fun k _ e => by injection e with e; exact e.symm)
theorem wp_storeS {K : Act → World → Prop} (t : TypeId) (x y : Operand) (ho : o.op = .store t x y) (g f : Nat) (hx : a.eval x = .pointer (some ⟨g, f, none⟩)) (cs : List Value) (hy : a.eval y = .agg cs.toArray) (t' : TypeId) (cur : Array Value)
    (hg : Cs w g t' cur) (hl : f + cs.length ≤ cur.size) (h1 : ∀ v ∈ cs, v.oneCell' = true) (hi : (P.info? t).map (·.size) = some cs.length)
    (hK : ∀ w', Cs w' g t' (over cur f cs) → Turn w w' (· = g) → K (a.put o.dst undef) w') : o.wp P a w K Q :=
  wp_store_agg t x y ho g f hx cs hy t' cur hg hl h1 hi (hK _ (hg.row _) ((Turn.of_grown (grown_row w g _)).mono fun k _ e => by injection e with e; exact e.symm))
theorem wp_storeW {K : Act → World → Prop} (t : TypeId) (x y : Operand) (ho : o.op = .store t x y) (g : Nat) (hx : a.eval x = .pointer (some ⟨g, 0, none⟩)) (cs cur : List Value) (hy : a.eval y = .agg cs.toArray)
    (hg : Cs w g t cur.toArray) (hl : cs.length = cur.length) (h1 : ∀ v ∈ cs, v.oneCell' = true) (hi : (P.info? t).map (·.size) = some cs.length)
    (hK : ∀ w', Cs w' g t cs.toArray → Turn w w' (· = g) → K (a.put o.dst undef) w') : o.wp P a w K Q :=
  wp_storeS t x y ho g 0 hx cs hy t cur.toArray hg (by simp; omega) h1 hi fun w' hc ht => hK w' (by rwa [over_whole _ _ (by simpa using hl)] at hc) ht
end

theorem wp_of_run2 {P : Program} {w w' : World} {o : Oper} {a : Act} {v : Value} {K : Act → World → Prop} {Q : Exit → Act → World → Prop} (h : (execOp a.eval o).run P w = .ok (.value v) w') (hK : K (a.put o.dst v) w') : o.wp P a w K Q := by
  unfold Oper.wp
  rw [h]
  exact hK

end Go.Proofs.YtdhlejhflkfoaaaDoor

/- append of one slice, or of a list of slices, to a row of slices that is owned; a literal of one slice. -/
namespace Go.Proofs.YtdhlejhflkfoaaaDoor
open Go.RowKit Go.Shelf
set_option linter.unusedVariables false
set_option maxRecDepth 100000
set_option linter.unusedSimpArgs false

section
variable {w : World} {ops : Array Oper} {rest : List Oper} {o : Oper} {a : Act} {Q : Exit → Act → World → Prop} {K : Act → World → Prop}
end

end Go.Proofs.YtdhlejhflkfoaaaDoor

/- A region that draws its order: AN OPERATION THAT CALLS may be taken first, if what it yields is one value in every world that meets S, and S holds behind it (whatever memory it makes). Of no program. -/
namespace Go.Proofs.YtdhlejhflkfoaaaDoor
open Go.RowKit Go.Shelf
set_option linter.unusedVariables false
set_option maxRecDepth 100000

section
variable {P : Program} {ops : Array Oper} {Q : Exit → Act → World → Prop} {md : Region.Mode} {S : World → Prop}
/-- what comes of an operation: the value v, and a world that meets S -/
def Does (P : Program) (S : World → Prop) (v : Value) : Result Next → Prop
  | .ok (.value u) w => u = v ∧ S w
  | .ok (.enter f args) w => Calls P f args w fun e w' => e = .returned v ∧ S w'
  | _ => False
theorem Does.upon {v : Value} {r : Result Next} (h : Does P S v r) {o : Oper} {a : Act} {K : Act → World → Prop} (hK : ∀ w, S w → K (a.put o.dst v) w) : o.upon P a K Q r := by
  cases r with
  | ok n w =>
    cases n with
    | value u => obtain ⟨rfl, hs⟩ := h; exact hK w hs
    | enter f args => exact Calls.mono h fun e w' he => by obtain ⟨rfl, hs⟩ := he; exact hK w' hs
    | _ => exact h.elim
  | halt x w => exact h.elim
def DoesIf (P : Program) (ops : Array Oper) (S : World → Prop) (o : Oper) (v : Value) (a : Act) : Prop :=
  (Region.wanted o (yielded ops a.tmps) = true ∧ ∀ w, S w → Does P S v ((execOp a.eval o).run P w)) ∨ (Region.wanted o (yielded ops a.tmps) = false ∧ v = undef)
theorem DoesIf.same {o : Oper} {v : Value} {a a' : Act} (h : DoesIf P ops S o v a) (he : execOp a'.eval o = execOp a.eval o) (hw : Region.wanted o (yielded ops a'.tmps) = Region.wanted o (yielded ops a.tmps)) : DoesIf P ops S o v a' := by
  unfold DoesIf at *
  rw [he, hw]
  exact h
theorem DoesIf.op {i : Nat} {o : Oper} {v : Value} {a : Act} (hi : ops[i]? = some o) (h : DoesIf P ops S o v a) {K : Act → World → Prop} {w : World} (hS : S w) (hK : ∀ w', S w' → K (a.put o.dst v) w') : wpOp P ops Q i K a w := by
  unfold wpOp
  simp only [hi]
  rcases h with ⟨hw, hv⟩ | ⟨hw, rfl⟩
  · rw [if_pos hw]
    exact .inl (Does.upon (hv w hS) hK)
  · rw [if_neg (by rw [hw]; decide)]
    exact hK w hS
theorem DoesIf.put {o p : Oper} {v : Value} (hs : ∀ cs b, o.op ≠ .select cs b) (hf : ∀ d, p.dst = some d → d ∉ o.looksAt ops) (u : Value) {a : Act} (h : DoesIf P ops S o v a) : DoesIf P ops S o v (a.put p.dst u) :=
  h.same (execOp_put o hs a p.dst u hf) (wanted_put o a p.dst u hf)
/-- what p leads to, with the value v laid at d BEHIND it in the place of ahead of it; D is what p and a defer leave as it was -/
theorem upon_behind {p : Oper} {d : Option Tmp} {v : Value} {D : Act → Prop} {K : Act → World → Prop} {a : Act} (hD : D a) (keep : ∀ b u, D b → D (b.put p.dst u)) (keepD : ∀ x, D { a with defers := x :: a.defers })
    (swap : ∀ (b : Act) u, (b.put d v).put p.dst u = (b.put p.dst u).put d v) (hQ : ∀ c w, Q (.panic c) (a.put d v) w → Q (.panic c) a w) :
    ∀ r : Result Next, p.upon P (a.put d v) K Q r → p.upon P a (fun b w => D b ∧ K (b.put d v) w) Q r
  | .ok (.value u) w, h => ⟨keep a u hD, swap a u ▸ h⟩
  | .ok .skip w, h => ⟨keep a undef hD, swap a undef ▸ h⟩
  | .ok (.defer x) w, h => ⟨keep _ undef (keepD x), by
      have h' : K (({ a with defers := x :: a.defers }.put d v).put p.dst undef) w := by
        rw [← Act.put_defers]
        exact h
      exact swap _ undef ▸ h'⟩
  | .ok (.enter f args) w, h => Calls.mono h fun e w' he => by
      rcases e with u | c | _
      · exact ⟨keep a u hD, swap a u ▸ he⟩
      · exact hQ c w' he
      · exact he
  | .ok (.row row args) w, h => Rows.mono h fun u w' he => ⟨keep a u hD, swap a u ▸ he⟩
  | .ok (.round ..) w, h => h.elim
  | .halt x w, h => by
      cases x with
      | panic u => exact hQ _ w h
      | _ => exact h.elim
/-- those that are left and wait not for number i are apart from o -/
def Clear (md : Region.Mode) (ops : Array Oper) (i : Nat) (o : Oper) (listed : Array Bool) : Prop :=
  ∀ j p, ops[j]? = some p → j ≠ i → listed.getD j true = false → (∀ e ∈ p.after, Region.binds md e = true → e.on ≠ i) → o.apart ops p = true
theorem Clear.less {i j : Nat} {o : Oper} {listed : Array Bool} (h : Clear md ops i o listed) (hj : listed.getD j true = false) : Clear md ops i o (listed.setIfInBounds j true) := fun k p hk hki hl hw =>
  h k p hk hki (if e : j = k then e ▸ hj else (getD_set_ne true e) ▸ hl) hw
theorem getD_both {l : Array Bool} {i : Nat} (h : l.getD i true = false) (h' : l.getD i false = true) : False := by
  by_cases hi : i < l.size <;> simp_all [Array.getD]
/-- of two that may come up the one waits not for the other -/
theorem ready_two {i j : Nat} {listed : Array Bool} (hi : i ∈ Region.ready md ops listed) (hj : j ∈ Region.ready md ops listed) : listed.getD j true = false ∧ ∃ p, ops[j]? = some p ∧ ∀ e ∈ p.after, Region.binds md e = true → e.on ≠ i :=
  have ⟨l, p, hp, hall⟩ := mem_ready.1 hj
  ⟨l, p, hp, fun e he hb heq => getD_both (mem_ready.1 hi).1 (heq ▸ hall e he hb)⟩
/-- an operation that only reads -/
theorem DoesIf.reads {o : Oper} {v : Value} {a : Act} (hw : Region.wanted o (yielded ops a.tmps) = true) (h : ∀ w, S w → (execOp a.eval o).run P w = .ok (.value v) w) : DoesIf P ops S o v a :=
  .inl ⟨hw, fun w hS => by rw [h w hS]; exact ⟨rfl, hS⟩⟩
/-- an operation that calls -/
theorem DoesIf.calls {o : Oper} {v : Value} {a : Act} {f : FuncId} {args : Array Value} (hw : Region.wanted o (yielded ops a.tmps) = true) (h : ∀ w, S w → (execOp a.eval o).run P w = .ok (.enter f args) w) (hc : ∀ w, S w → Calls P f args w fun e w' => e = .returned v ∧ S w') : DoesIf P ops S o v a :=
  .inl ⟨hw, fun w hS => by rw [h w hS]; exact hc w hS⟩
end

end Go.Proofs.YtdhlejhflkfoaaaDoor

/- A region that draws its order: operations that read or make memory are taken first, one by one, whatever order comes; one that changes memory (a store, a call that writes) is a barrier: it waits for those that look at what it changes. Of no program. -/
namespace Go.Proofs.YtdhlejhflkfoaaaDoor
open Go.RowKit Go.Shelf
set_option linter.unusedVariables false
set_option maxRecDepth 100000

section
variable {P : Program} {ops : Array Oper} {Q : Exit → Act → World → Prop} {md : Region.Mode}
/-- what is kept by whatever only makes memory -/
def Kept (S : World → Prop) : Prop := ∀ w w', S w → Below w.heap.size w w' → S w'
theorem kept_below (w0 : World) : Kept (Below w0.heap.size w0) := fun w w' h hb => below_chain h hb
theorem kept_and {S T : World → Prop} (h : Kept S) (k : Kept T) : Kept fun w => S w ∧ T w := fun w w' x hb => ⟨h w w' x.1 hb, k w w' x.2 hb⟩
theorem kept_cs (g : Nat) (t : TypeId) (cs : Array Value) : Kept fun w => Cs w g t cs := fun w w' h hb => h.below hb h.lt
/-- in every world of T the operation yields v, and only makes memory -/
def DoesV (P : Program) (ops : Array Oper) (T : World → Prop) (o : Oper) (v : Value) (a : Act) : Prop :=
  (Region.wanted o (yielded ops a.tmps) = true ∧ ∀ w, T w → Does P (fun w' => Below w.heap.size w w') v ((execOp a.eval o).run P w)) ∨ (Region.wanted o (yielded ops a.tmps) = false ∧ v = undef)
theorem DoesV.same {T : World → Prop} {o : Oper} {v : Value} {a a' : Act} (h : DoesV P ops T o v a) (he : execOp a'.eval o = execOp a.eval o) (hw : Region.wanted o (yielded ops a'.tmps) = Region.wanted o (yielded ops a.tmps)) : DoesV P ops T o v a' := by
  unfold DoesV at *
  rw [he, hw]
  exact h
theorem DoesV.op {T : World → Prop} {i : Nat} {o : Oper} {v : Value} {a : Act} (hi : ops[i]? = some o) (h : DoesV P ops T o v a) {K : Act → World → Prop} {w : World} (hT : T w) (hK : ∀ w', Below w.heap.size w w' → K (a.put o.dst v) w') : wpOp P ops Q i K a w := by
  unfold wpOp
  simp only [hi]
  rcases h with ⟨hw, hv⟩ | ⟨hw, rfl⟩
  · rw [if_pos hw]
    exact .inl (Does.upon (hv w hT) hK)
  · rw [if_neg (by rw [hw]; decide)]
    exact hK w (Below.refl _ _)
theorem DoesV.put {T : World → Prop} {o p : Oper} {v : Value} (hs : ∀ cs b, o.op ≠ .select cs b) (hf : ∀ d, p.dst = some d → d ∉ o.looksAt ops) (u : Value) {a : Act} (h : DoesV P ops T o v a) : DoesV P ops T o v (a.put p.dst u) :=
  h.same (execOp_put o hs a p.dst u hf) (wanted_put o a p.dst u hf)
theorem opV_behind {T : World → Prop} {j : Nat} {o p : Oper} {v : Value} (hj : ops[j]? = some p) (hap : o.apart ops p = true) (ho : ∀ cs b, o.op ≠ .select cs b) (hp : ∀ cs b, p.op ≠ .select cs b) (hQ : ∀ c a w, Q (.panic c) (a.put o.dst v) w → Q (.panic c) a w)
    {K : Act → World → Prop} {a : Act} {w : World} (hd : DoesV P ops T o v a) (h : wpOp P ops Q j K (a.put o.dst v) w) : wpOp P ops Q j (fun b w' => DoesV P ops T o v b ∧ K (b.put o.dst v) w') a w := by
  have A := Oper.apart_spec hap
  have swap : ∀ (b : Act) u, (b.put o.dst v).put p.dst u = (b.put p.dst u).put o.dst v := fun b u => Act.put_comm b v u A.2.1
  have same := wanted_put p a o.dst v A.1
  have run := execOp_put p hp a o.dst v A.1
  unfold wpOp at h ⊢
  simp only [hj, same] at h ⊢
  split at h
  · rename_i hw
    rw [if_pos hw]
    refine h.imp (fun h => ?_) (fun h => ⟨?_, h.2⟩)
    · unfold Oper.wp at h ⊢
      rw [run] at h
      exact upon_behind hd (fun b u hb => DoesV.put ho A.2.2 u hb) (fun x => DoesV.same hd rfl rfl) swap (fun c w' => hQ c a w') _ h
    · have := h.1
      unfold Oper.asks at this ⊢
      rwa [run] at this
  · rename_i hw
    rw [if_neg hw]
    exact ⟨DoesV.put ho A.2.2 undef hd, swap a undef ▸ h⟩
/-- number b waits for number i, by whatever road -/
def waitsR (md : Region.Mode) (ops : Array Oper) : Nat → Nat → Nat → Bool
  | 0, b, i => match ops[b]? with
    | some p => p.after.any fun e => Region.binds md e && e.on == i
    | none => false
  | f + 1, b, i => match ops[b]? with
    | some p => p.after.any fun e => Region.binds md e && (e.on == i || waitsR md ops f e.on i)
    | none => false
/-- what is listed has all listed that it waits for -/
def Whole (md : Region.Mode) (ops : Array Oper) (listed : Array Bool) : Prop := ∀ j p, ops[j]? = some p → listed.getD j false = true → ∀ e ∈ p.after, Region.binds md e = true → listed.getD e.on false = true
def wholeB (md : Region.Mode) (ops : Array Oper) (listed : Array Bool) : Bool := (List.range ops.size).all fun j => match ops[j]? with
  | some p => !listed.getD j false || p.after.all fun e => !Region.binds md e || listed.getD e.on false
  | none => true
theorem wholeB_spec {listed : Array Bool} (h : wholeB md ops listed = true) : Whole md ops listed := fun j p hj hl e he hb => by
  unfold wholeB at h
  rw [List.all_eq_true] at h
  have h1 := h j (List.mem_range.2 (Array.getElem?_eq_some_iff.1 hj).1)
  simp only [hj, hl, Bool.not_true, Bool.false_or] at h1
  have h2 := Array.all_eq_true_iff_forall_mem.1 h1 e he
  simpa [hb] using h2
theorem Whole.set {listed : Array Bool} {i : Nat} (h : Whole md ops listed) (hi : i ∈ Region.ready md ops listed) : Whole md ops (listed.setIfInBounds i true) := fun j p hj hl e he hb => by
  obtain ⟨_, oi, hoi, hall⟩ := mem_ready.1 hi
  by_cases hij : i = j
  · subst hij
    have : p = oi := Option.some.inj (hj.symm.trans hoi)
    subst this
    exact getD_set_true (hall e he hb)
  · rw [getD_set_ne false hij] at hl
    exact getD_set_true (h j p hj hl e he hb)
theorem waitsR_listed {listed : Array Bool} (hw : Whole md ops listed) : ∀ (f b i : Nat), waitsR md ops f b i = true → (∀ p, ops[b]? = some p → ∀ e ∈ p.after, Region.binds md e = true → listed.getD e.on false = true) → listed.getD i false = true
  | 0, b, i, h, hb => by
    unfold waitsR at h
    split at h
    · rename_i p hp
      obtain ⟨e, he, h1⟩ := Array.any_eq_true'.1 h
      simp only [Bool.and_eq_true, beq_iff_eq] at h1
      rw [← h1.2]
      exact hb p hp e he h1.1
    · cases h
  | f + 1, b, i, h, hb => by
    unfold waitsR at h
    split at h
    · rename_i p hp
      obtain ⟨e, he, h1⟩ := Array.any_eq_true'.1 h
      simp only [Bool.and_eq_true, Bool.or_eq_true, beq_iff_eq] at h1
      have hl := hb p hp e he h1.1
      rcases h1.2 with h2 | h2
      · rw [← h2]; exact hl
      · exact waitsR_listed hw f e.on i h2 fun q hq e' he' hb' => hw e.on q hq hl e' he' hb'
    · cases h
/-- whatever order is picked from here on, in whatever world that meets S; the numbers of bs are barriers -/
def wpAnyV (P : Program) (md : Region.Mode) (ops : Array Oper) (Q : Exit → Act → World → Prop) (bs : List Nat) : (World → Prop) → Nat → Array Bool → Act → Prop
  | S, 0, listed, a => Region.ready md ops listed = [] ∧ ∀ w, S w → Q .normal a w
  | S, fuel + 1, listed, a => (Region.ready md ops listed = [] → ∀ w, S w → Q .normal a w) ∧
      ∀ i ∈ Region.ready md ops listed, ∀ w, S w → wpOp P ops Q i (fun a' w' => ∃ (S' : World → Prop), S' w' ∧ Kept S' ∧ (i ∉ bs → ∀ u, S' u → S u) ∧ wpAnyV P md ops Q bs S' fuel (listed.setIfInBounds i true) a') a w
theorem wpAny_of_V {bs : List Nat} : ∀ (fuel : Nat) (S : World → Prop) (listed : Array Bool) (a : Act) (w : World), S w → wpAnyV P md ops Q bs S fuel listed a → wpAny P md ops Q fuel listed a w
  | 0, _, _, _, w, hS, h => ⟨h.1, h.2 w hS⟩
  | fuel + 1, _, _, _, w, hS, h => ⟨fun hr => h.1 hr w hS, fun i hi => wpOp_mono (fun a' w' ⟨S', h1, _, _, h2⟩ => wpAny_of_V fuel S' _ a' w' h1 h2) (h.2 i hi w hS)⟩
theorem wpAnyV_first {bs : List Nat} {T : World → Prop} {i : Nat} {o : Oper} {v : Value} (hi : ops[i]? = some o) (hib : i ∉ bs) (hsel : ∀ (j : Nat) (p : Oper) cs b, ops[j]? = some p → p.op ≠ .select cs b) (hQ : ∀ c a w, Q (.panic c) (a.put o.dst v) w → Q (.panic c) a w)
    (hbar : (∀ w, T w) ∨ ∃ f, ∀ b ∈ bs, waitsR md ops f b i = true) :
    ∀ (fuel : Nat) (S : World → Prop) (listed : Array Bool) (a : Act), Kept S → (∀ w, S w → T w) → Whole md ops listed → Clear md ops i o listed → i ∈ Region.ready md ops listed → DoesV P ops T o v a → wpAnyV P md ops Q bs S fuel (listed.setIfInBounds i true) (a.put o.dst v) → wpAnyV P md ops Q bs S (fuel + 1) listed a
  | fuel, S, listed, a, hk, hST, hwh, hc, hr, hd, H => ⟨fun h => absurd h (List.ne_nil_of_mem hr), fun j hj w hS => by
      by_cases e : j = i
      · rw [e]
        exact hd.op hi (hST w hS) fun w' hb => ⟨S, hk w w' hS hb, hk, fun _ u h => h, H⟩
      · have later := ready_mono hj e
        cases fuel with
        | zero => exact absurd H.1 (List.ne_nil_of_mem later)
        | succ fuel =>
          obtain ⟨hl, p, hp, hw⟩ := ready_two hr hj
          refine wpOp_mono (fun b w' hb => ?_) (opV_behind hp (hc j p hp e hl hw) (hsel i o · · hi) (hsel j p · · hp) hQ hd (H.2 j later w hS))
          obtain ⟨hdb, S', h1, h2, h3, hrest⟩ := hb
          rw [Array.setIfInBounds_comm _ _ (Ne.symm e)] at hrest
          refine ⟨S', h1, h2, h3, wpAnyV_first hi hib hsel hQ hbar fuel S' _ b h2 ?_ (hwh.set hj) (hc.less hl) (ready_mono hr (Ne.symm e)) hdb hrest⟩
          rcases hbar with hT | ⟨f, hf⟩
          · exact fun u _ => hT u
          · have hjb : j ∉ bs := fun hm => by
              have hli := waitsR_listed hwh f j i (hf j hm) fun q hq e' he' hb' => by
                obtain ⟨_, q', hq', hall⟩ := mem_ready.1 hj
                have : q = q' := Option.some.inj (hq.symm.trans hq')
                subst this
                exact hall e' he' hb'
              exact getD_both (mem_ready.1 hr).1 hli
            exact fun u hu => hST u (h3 hjb u hu)⟩
theorem wpAnyV_take {bs : List Nat} {S T : World → Prop} {i : Nat} {oi : Oper} {v : Value} {fuel : Nat} {listed : Array Bool} {a : Act} (f : Nat) (hk : Kept S) (hi : ops[i]? = some oi) (hs : Region.noSelect ops = true)
    (hchk : (Region.free md ops listed i && (Region.ready md ops listed).contains i && wholeB md ops listed && bs.all (fun b => (b != i) && waitsR md ops f b i)) = true)
    (hQ : ∀ c a w, Q (.panic c) (a.put oi.dst v) w → Q (.panic c) a w) (hST : ∀ w, S w → T w) (hd : DoesV P ops T oi v a) (h : wpAnyV P md ops Q bs S fuel (listed.setIfInBounds i true) (a.put oi.dst v)) : wpAnyV P md ops Q bs S (fuel + 1) listed a := by
  simp only [Bool.and_eq_true, List.all_eq_true, bne_iff_ne, ne_eq] at hchk
  obtain ⟨⟨⟨hf, hr⟩, hwh⟩, hb⟩ := hchk
  exact wpAnyV_first hi (fun hm => (hb i hm).1 rfl) (Region.noSelect_spec hs) hQ (.inr ⟨f, fun b hm => (hb b hm).2⟩) fuel S listed a hk hST (wholeB_spec hwh) (Region.free_spec hi hf) (by simpa using hr) hd h
/-- an operation that looks at no memory: whatever barriers there are -/
theorem wpAnyV_pure {bs : List Nat} {S : World → Prop} {i : Nat} {oi : Oper} {v : Value} {fuel : Nat} {listed : Array Bool} {a : Act} (hk : Kept S) (hi : ops[i]? = some oi) (hs : Region.noSelect ops = true)
    (hchk : (Region.free md ops listed i && (Region.ready md ops listed).contains i && wholeB md ops listed && bs.all (fun b => b != i)) = true)
    (hQ : ∀ c a w, Q (.panic c) (a.put oi.dst v) w → Q (.panic c) a w) (hd : DoesV P ops (fun _ => True) oi v a) (h : wpAnyV P md ops Q bs S fuel (listed.setIfInBounds i true) (a.put oi.dst v)) : wpAnyV P md ops Q bs S (fuel + 1) listed a := by
  simp only [Bool.and_eq_true, List.all_eq_true, bne_iff_ne, ne_eq] at hchk
  obtain ⟨⟨⟨hf, hr⟩, hwh⟩, hb⟩ := hchk
  exact wpAnyV_first hi (fun hm => hb i hm rfl) (Region.noSelect_spec hs) hQ (.inl fun _ => trivial) fuel S listed a hk (fun _ _ => trivial) (wholeB_spec hwh) (Region.free_spec hi hf) (by simpa using hr) hd h
/-- the only one that may come up: whatever it does -/
theorem wpAnyV_only {bs : List Nat} {S : World → Prop} {i : Nat} {o : Oper} {fuel : Nat} {listed : Array Bool} {a : Act} (hi : ops[i]? = some o) (hr : Region.ready md ops listed = [i]) (hg : o.guard = none)
    (h : ∀ w, S w → Oper.wp P o a w (fun a' w' => ∃ (S' : World → Prop), S' w' ∧ Kept S' ∧ (i ∉ bs → ∀ u, S' u → S u) ∧ wpAnyV P md ops Q bs S' fuel (listed.setIfInBounds i true) a') Q) : wpAnyV P md ops Q bs S (fuel + 1) listed a :=
  ⟨fun e => (by rw [hr] at e; cases e), fun j hj w hS => by
    rw [hr, List.mem_singleton] at hj
    subst hj
    unfold wpOp
    simp only [hi]
    rw [if_pos (by simp [Region.wanted, hg])]
    exact .inl (h w hS)⟩
/-- two that may come up: the one first, or the other -/
theorem wpAnyV_two {bs : List Nat} {S : World → Prop} {i j : Nat} {o p : Oper} {fuel : Nat} {listed : Array Bool} {a : Act} (hi : ops[i]? = some o) (hj : ops[j]? = some p) (hr : Region.ready md ops listed = [i, j]) (hg : o.guard = none) (hg' : p.guard = none)
    (h : ∀ w, S w → Oper.wp P o a w (fun a' w' => ∃ (S' : World → Prop), S' w' ∧ Kept S' ∧ (i ∉ bs → ∀ u, S' u → S u) ∧ wpAnyV P md ops Q bs S' fuel (listed.setIfInBounds i true) a') Q)
    (h' : ∀ w, S w → Oper.wp P p a w (fun a' w' => ∃ (S' : World → Prop), S' w' ∧ Kept S' ∧ (j ∉ bs → ∀ u, S' u → S u) ∧ wpAnyV P md ops Q bs S' fuel (listed.setIfInBounds j true) a') Q) : wpAnyV P md ops Q bs S (fuel + 1) listed a :=
  ⟨fun e => (by rw [hr] at e; cases e), fun k hk w hS => by
    rw [hr] at hk
    simp only [List.mem_cons, List.not_mem_nil, or_false] at hk
    rcases hk with rfl | rfl
    · unfold wpOp
      simp only [hi]
      rw [if_pos (by simp [Region.wanted, hg])]
      exact .inl (h w hS)
    · unfold wpOp
      simp only [hj]
      rw [if_pos (by simp [Region.wanted, hg'])]
      exact .inl (h' w hS)⟩
theorem wpAnyV_done {bs : List Nat} {S : World → Prop} {listed : Array Bool} {a : Act} (hr : Region.ready md ops listed = []) (h : ∀ w, S w → Q .normal a w) : ∀ fuel, wpAnyV P md ops Q bs S fuel listed a
  | 0 => ⟨hr, h⟩
  | _ + 1 => ⟨fun _ => h, by rw [hr]; simp⟩
theorem wp_region_V {id : Nat} {a : Act} {w : World} (bs : List Nat) (S : World → Prop) (hm : P.follows .mixedOrders = true) (hS : S w.drew) (h : wpAnyV P .any ops Q bs S ops.size (Array.replicate ops.size false) a) : (Code.region id ops true).wp P Q a w :=
  wp_region_any hm (wpAny_of_V _ _ _ _ _ hS h)
/-- an operation that only reads -/
theorem DoesV.reads {T : World → Prop} {o : Oper} {v : Value} {a : Act} (hw : Region.wanted o (yielded ops a.tmps) = true) (h : ∀ w, T w → (execOp a.eval o).run P w = .ok (.value v) w) : DoesV P ops T o v a :=
  .inl ⟨hw, fun w hT => by rw [h w hT]; exact ⟨rfl, Below.refl _ _⟩⟩
/-- an operation that calls -/
theorem DoesV.calls {T : World → Prop} {o : Oper} {v : Value} {a : Act} (f : FuncId) (args : Array Value) (hw : Region.wanted o (yielded ops a.tmps) = true) (h : ∀ w, T w → (execOp a.eval o).run P w = .ok (.enter f args) w) (hc : ∀ w, T w → Calls P f args w fun e w' => e = .returned v ∧ Below w.heap.size w w') : DoesV P ops T o v a :=
  .inl ⟨hw, fun w hT => by rw [h w hT]; exact hc w hT⟩
theorem DoesV.off {T : World → Prop} {o : Oper} {a : Act} (hw : Region.wanted o (yielded ops a.tmps) = false) : DoesV P ops T o undef a := .inr ⟨hw, rfl⟩
theorem wp_of_call {o : Oper} {a : Act} {w : World} {K : Act → World → Prop} {f : FuncId} {args : Array Value} {R : Ending → World → Prop} (h : (execOp a.eval o).run P w = .ok (.enter f args) w) (hc : Calls P f args w R)
    (hK : ∀ e w', R e w' → ∃ v, e = .returned v ∧ K (a.put o.dst v) w') : Oper.wp P o a w K Q := by
  unfold Oper.wp
  rw [h]
  exact Calls.mono hc fun e w' he => by
    obtain ⟨v, rfl, hk⟩ := hK e w' he
    exact hk
end

end Go.Proofs.YtdhlejhflkfoaaaDoor

/- A range over a function whose iterator makes what it hands over (a fact of each item holds where it is yielded), and whose round makes its variables anew. -/
namespace Go.Proofs.YtdhlejhflkfoaaaDoor
open Go.RowKit

/-- the loop's own two blocks: its record in block D + 1, the rounds' deferred calls in block D -/
structure BookI (D : Nat) (r : Loop) (W : World) : Prop where
  loop : W.heap[D + 1]? = some (.loop r)
  late : W.heap[D]? = some (.deferred (some []))
theorem BookI.lt {D : Nat} {r : Loop} {W : World} (h : BookI D r W) : D + 1 < W.heap.size := (Array.getElem?_eq_some_iff.1 h.loop).1
theorem BookI.from {D : Nat} {r : Loop} {X Y : World} (h : BookI D r X) (k : KeepsFrom D X Y) : BookI D r Y :=
  ⟨k.same _ _ (by omega) h.loop rfl, k.same _ _ (Nat.le_refl _) h.late rfl⟩
theorem BookI.put {D : Nat} {r : Loop} {X : World} (h : BookI D r X) (r' : Loop) : BookI D r' (X.putObj (D + 1) (.loop r')) :=
  ⟨World.putObj_heap_same h.lt, (World.putObj_heap_other (by omega)).trans h.late⟩

variable {F : Fence} {n : Nat} {P : Program}

end Go.Proofs.YtdhlejhflkfoaaaDoor
