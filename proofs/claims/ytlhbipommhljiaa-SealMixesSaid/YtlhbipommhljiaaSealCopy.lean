/- copy of bytes that read, into a known row of bytes, whatever their number; the room for a body. -/
import Derived.Test.YtlhbipommhljiaaSealMix
import Derived.Test.YtlhbipommhljiaaSealConcat
import Derived.Laws.IdiomCopy
namespace Go.Proofs.Ytlhbipommhljiaa
open Go.RowKit Go.Shelf
set_option linter.unusedVariables false

theorem layAt_nil (b : List UInt8) (o : Nat) : layAt b o [] = b := by simp [layAt]
theorem run_copy_rd (w : World) (g f n dc m sc : Nat) (A : Option Addr) (t : TypeId) (b l : List UInt8) (hm : l.length = m) (hr : Rd w A l) (hg : Cs w g t (cellsOf b).toArray) (hfit : f + min n m ≤ b.length) (ty : TypeId) :
    ∃ w', (Builtin.copy_ #[23, 23] ty #[.slice (some ⟨g, f, none⟩) n dc, .slice A m sc]).run Try.prog w = .ok (.int .i64 (min n m : Nat)) w' ∧ Cs w' g t (cellsOf (layAt b f (l.take n))).toArray ∧ w.grownBy w' (some g) := by
  subst hm
  by_cases h0 : min n l.length = 0
  · refine ⟨w, ?_, ?_, World.grownBy.refl w _⟩
    · have := run_copy_none (P := Try.prog) w 23 23 ty 5 (some ⟨g, f, none⟩) A n dc l.length sc Try.underlying23 (by kernel_rfl) (by rw [Nat.min_comm] at h0; exact h0)
      rw [this, h0]
      rfl
    · have e : l.take n = [] := by
        rcases Nat.eq_zero_or_pos n with h | h
        · rw [h]; rfl
        · have : l.length = 0 := by omega
          rw [List.eq_nil_of_length_eq_zero this]; simp
      rw [e, layAt_nil]
      exact hg
  · rcases hr with rfl | ⟨sb, so, rfl, hc⟩
    · simp at h0
    · have hlen : (cellsOf (l.take n)).length = min n l.length := by rw [cellsOf_length, List.length_take]
      have hrun := run_copy_row (P := Try.prog) w 23 23 ty 5 g f n dc ⟨sb, so, none⟩ l.length sc (cellsOf b).toArray t (cellsOf (l.take n)) Try.underlying23 (by kernel_rfl) hg (by rw [hlen]; exact Nat.min_comm _ _)
        (fun j v hv => by
          have hj : j < l.length := by
            have := (List.getElem?_eq_some_iff.1 hv).1
            rw [hlen] at this
            omega
          have hjn : j < n := by
            have := (List.getElem?_eq_some_iff.1 hv).1
            rw [hlen] at this
            omega
          rw [addr_add, hc j hj]
          simp only [cellsOf, List.getElem?_map, List.getElem?_take_of_lt hjn, List.getElem?_eq_getElem hj, Option.map_some] at hv
          exact hv) (by rw [hlen]; simpa [cellsOf_length] using hfit) (cellsOf_one _)
      rw [hlen] at hrun
      refine ⟨_, hrun, ?_, grown_row _ _ _⟩
      have h1 := hg.row (over (cellsOf b).toArray f (cellsOf (l.take n)))
      have e : over (cellsOf b).toArray f (cellsOf (l.take n)) = ((cellsOf b).take f ++ cellsOf (l.take n) ++ (cellsOf b).drop (f + min n l.length)).toArray := by
        unfold over
        rw [hlen]
      rw [← e]
      rw [over_cells] at h1 ⊢
      exact h1
section
variable {w : World} {ops : Array Oper} {rest : List Oper} {o : Oper} {a : Act} {Q : Exit → Act → World → Prop}
theorem wpList_copy_rd (hgd : o.guard = none) (d s : Operand) (ho : o.op = Op.call { callee := Callee.builtin Builtin.copy, args := #[d, s], argTypes := #[23, 23] }) (g f n dc m sc : Nat) (A : Option Addr) (t : TypeId) (b l : List UInt8)
    (hd : a.eval d = .slice (some ⟨g, f, none⟩) n dc) (hs : a.eval s = .slice A m sc) (hm : l.length = m) (hr : Rd w A l) (hg : Cs w g t (cellsOf b).toArray) (hfit : f + min n m ≤ b.length) (k : Nat) (hk : min n m = k)
    (hK : ∀ w', Cs w' g t (cellsOf (layAt b f (l.take n))).toArray → w.grownBy w' (some g) → wpList Try.prog ops Q rest (a.put o.dst (.int .i64 (k : Int))) w') : wpList Try.prog ops Q (o :: rest) a w := by
  obtain ⟨w', hrun, h1, h2⟩ := run_copy_rd w g f n dc m sc A t b l hm hr hg hfit o.type
  refine wpList_plain hgd fun _ hh => ?_
  unfold Oper.wp execOp
  simp only [ho, resolve, invoke, builtin, Sem.run_bind, Sem.run_pure, Result.andThen_ok, List.map_toArray, List.map_cons, List.map_nil, hd, hs, hrun]
  rw [hk]
  exact hh _ _ (hK _ h1 h2)
end
/-- a body's room -/
def z44 : List UInt8 := List.replicate 44 0
theorem z44_len : z44.length = 44 := by simp [z44]
theorem zero44 (w : World) : (zeroValue 40).run Try.prog w = .ok (.agg (cellsOf z44).toArray) w := by kernel_rfl
theorem wpList_alloc_44 {w : World} {ops : Array Oper} {rest : List Oper} {o : Oper} {a : Act} {Q : Exit → Act → World → Prop} (hgd : o.guard = none) (ho : o.op = .alloc 40)
    (hK : ∀ g w', Cs w' g 40 (cellsOf z44).toArray → Below w.heap.size w w' → w.heap.size ≤ g → wpList Try.prog ops Q rest (a.put o.dst (.pointer (some ⟨g, 0, none⟩))) w') : wpList Try.prog ops Q (o :: rest) a w :=
  wpList_alloc_agg hgd 40 ho (cellsOf z44) zero44 (hK _ _ (Cs.new _ _ _) ((Below.refl _ _).alloc (Nat.le_refl _) _) (Nat.le_refl _))
theorem full_lay (b : List UInt8) (h : b.length ≤ 44) : layAt z44 0 (b.take 44) = fullOf b := by
  unfold layAt fullOf z44
  rw [List.take_of_length_le h, List.take_zero, List.nil_append, Nat.zero_add, List.drop_replicate]

end Go.Proofs.Ytlhbipommhljiaa
