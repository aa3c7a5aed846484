/- Things as bytes, plain: what a writer lays, what a reader tells; append to a slice of one's own that says where the new one lies. -/
import Derived.Test.YtboalmmpcfiicaaDoorNumK
import Derived.Test.YtboalmmpcfiicaaDoorTblK
import Derived.Test.YtboalmmpcfiicaaDoorWordsK
namespace Go.Proofs.YtboalmmpcfiicaaDoor
open Go.RowKit Go.Shelf
set_option linter.unusedVariables false
set_option maxRecDepth 100000
set_option linter.unusedSimpArgs false

/-- how much padding stands behind n bytes -/
def padN (n : Nat) : Nat := (4 - n % 4) % 4
theorem padN_lt (n : Nat) : padN n < 4 := Nat.mod_lt _ (by decide)
theorem padI_nat (n : Nat) : padI (n : Int) = (padN n : Int) := by
  unfold padI padN
  rw [if_neg (by omega)]
  omega
theorem Pad_nat (n : Nat) (hn : n ≤ 9223372036854775807) (w : World) : Calls Tryd.prog 51 #[.int .i64 (n : Int)] w fun e w' => e = .returned (.int .i64 (padN n : Int)) ∧ w = w' := by
  have := Pad_any (n : Int) (by omega) w
  rwa [padI_nat] at this
theorem PadRef_nat (n : Nat) (hn : n ≤ 9223372036854775807) (w : World) : Calls Tryd.prog 54 #[.int .i64 (n : Int)] w fun e w' => e = .returned (.int .i64 (padN n : Int)) ∧ w = w' := by
  have := Pad_ref (n : Int) (by omega) w
  rwa [padI_nat] at this
/-- bytes as they are laid -/
def bytesX (l : List UInt8) : List UInt8 := beL (l.length : Int) 4 ++ l ++ List.replicate (padN l.length) 0
theorem bytesX_length (l : List UInt8) : (bytesX l).length = 4 + l.length + padN l.length := by simp only [bytesX, List.length_append, beL_length, List.length_replicate]
def truthX (b : Bool) : List UInt8 := beL (if b then 1 else 0) 4
theorem truthX_length (b : Bool) : (truthX b).length = 4 := by simp [truthX, beL_length]
/-- the slice v' starts where v did, or in new memory -/
def OwnTo (w : World) (v v' : Value) : Prop := ∀ k, v'.ownBlock = some k → v.ownBlock = some k ∨ w.heap.size ≤ k
theorem OwnTo.refl (w : World) (v : Value) : OwnTo w v v := fun k h => .inl h
theorem OwnTo.trans {w w1 : World} {a b c : Value} (h : OwnTo w a b) (k : OwnTo w1 b c) (hs : w.heap.size ≤ w1.heap.size) : OwnTo w a c := fun i hi => by
  rcases k i hi with h1 | h1
  · exact h i h1
  · exact .inr (by omega)
theorem run_append_to {w : World} (ty : TypeId) (base : Nat) (v : Value) (n : Nat) (xs : List UInt8) (hown : w.ownsRow base 5 1 v n (cellsOf xs)) (A : Option Addr) (l : List UInt8) (m c : Nat) (hm : m = l.length) (hr : Rd w A l) (hA : A = none → l = [] ∧ c = 0) (hb : n + m ≤ 140737488355328) (hbase : base ≤ w.heap.size) :
    ∃ v' w', (Builtin.append_ #[28, 28] ty #[v, .slice A m c]).run Tryd.prog w = .ok v' w' ∧ w'.ownsRow base 5 1 v' (n + m) (cellsOf (xs ++ l)) ∧ w.grownBy w' v.ownBlock ∧ OwnTo w v v' := by
  obtain ⟨i0, hi, hz0, hz1, hz2⟩ := info_parts Try_info5
  subst hm
  rcases A with _ | ad
  · obtain ⟨rfl, rfl⟩ := hA rfl
    refine ⟨v, w, ?_, by rw [List.append_nil]; exact hown, World.grownBy.refl w _, OwnTo.refl _ _⟩
    exact run_append_owned_none (P := Tryd.prog) (w := w) base 28 ty 5 i0 1 Tryd.underlying28 hi v n (cellsOf xs) hown
  · obtain ⟨v', w', hrun, r1, r2, r3, r4⟩ := run_append_own_at (P := Tryd.prog) w base 28 ty 5 i0 (.int .u8 0) 1 1 Tryd.underlying28 hi hz0 hz1 hz2 rfl (by decide) v n (cellsOf xs) hown ad l.length c (cellsOf l) (by rw [cellsOf_length, Nat.mul_one]) (rd_cells hr) (cellsOf_one l) (by simp only [maxLen]; omega) (by omega) hbase
    refine ⟨v', w', hrun, by rw [cellsOf_append]; exact r1, r2, fun k hk => ?_⟩
    rcases r4 with r4 | r4
    · exact .inl (r4.symm.trans hk)
    · rw [r4] at hk
      cases hk
      exact .inr (Nat.le_refl _)
/-- append of bytes that read as l, nil or not, to a slice of the call's own -/
theorem append_to {w : World} {ops : Array Oper} {rest : List Oper} {o : Oper} {a : Act} {Q : Exit → Act → World → Prop} (hgd : o.guard = none) (s x : Operand)
    (ho : o.op = .call { callee := .builtin .append, args := #[s, x], argTypes := #[28, 28] })
    (base : Nat) (v : Value) (n : Nat) (xs : List UInt8) (hs : a.eval s = v) (hown : w.ownsRow base 5 1 v n (cellsOf xs))
    (A : Option Addr) (l : List UInt8) (m c : Nat) (hm : m = l.length) (hx : a.eval x = .slice A m c) (hr : Rd w A l) (hA : A = none → l = [] ∧ c = 0) (hb : n + m ≤ 140737488355328) (hbase : base ≤ w.heap.size)
    (h : ∀ v' w', w'.ownsRow base 5 1 v' (n + m) (cellsOf (xs ++ l)) → w.grownBy w' v.ownBlock → OwnTo w v v' → wpList Tryd.prog ops Q rest (a.put o.dst v') w') : wpList Tryd.prog ops Q (o :: rest) a w := by
  obtain ⟨v', w', hrun, r1, r2, r3⟩ := run_append_to o.type base v n xs hown A l m c hm hr hA hb hbase
  refine wpList_plain hgd fun K hK => ?_
  unfold Oper.wp execOp
  simp only [ho, resolve, invoke, builtin, Sem.run_bind, Sem.run_pure, Result.andThen_ok, List.map_toArray, List.map_cons, List.map_nil, hs, hx, hrun]
  exact hK _ _ (h v' w' r1 r2 r3)
/-- a writer: its block, and what it has laid -/
structure WrAt (w : World) (wb : Nat) (v : Value) (l : List UInt8) : Prop where
  cell : Cs w wb 50 #[v]
  own : w.ownsRow 0 5 1 v l.length (cellsOf l)
theorem WrAt.ne {w : World} {wb : Nat} {v : Value} {l : List UInt8} (h : WrAt w wb v l) : v.ownBlock ≠ some wb := fun e => by
  obtain ⟨_, cs, hc⟩ := own_blk h.own e
  exact Cs.ne hc h.cell (by decide) rfl
theorem WrAt.turn {w w' : World} {wb : Nat} {v : Value} {l : List UInt8} {G : Nat → Prop} (h : WrAt w wb v l) (ht : Turn w w' G) (hG : ¬ G wb) (hv : ∀ k, v.ownBlock = some k → ¬ G k) : WrAt w' wb v l := ⟨h.cell.turn ht hG, ownsRow_turn' h.own ht hv⟩
theorem WrAt.below {w w' : World} {wb : Nat} {v : Value} {l : List UInt8} (h : WrAt w wb v l) (hb : Below w.heap.size w w') : WrAt w' wb v l := h.turn (Turn.of_below hb fun _ => False) (fun h => h) fun _ _ h => h
theorem WrAt.lt {w : World} {wb : Nat} {v : Value} {l : List UInt8} (h : WrAt w wb v l) : ∀ k, v.ownBlock = some k → k < w.heap.size := fun k hk => (h.own.lt k hk).2
/-- what is turned by laying -/
def LayF (wb : Nat) (v : Value) (k : Nat) : Prop := k = wb ∨ v.ownBlock = some k
/-- behind something that lays: the writer has laid l -/
def Laid (wb : Nat) (v : Value) (l : List UInt8) (w : World) (e : Ending) (w' : World) : Prop := e = .returned (.tuple #[]) ∧ ∃ v', WrAt w' wb v' l ∧ Turn w w' (LayF wb v) ∧ OwnTo w v v'

end Go.Proofs.YtboalmmpcfiicaaDoor
