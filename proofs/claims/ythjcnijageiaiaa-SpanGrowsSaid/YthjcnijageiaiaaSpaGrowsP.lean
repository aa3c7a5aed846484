/- Plain: spans that are added one behind the other come to what all of them hold. Of no program. -/
import Derived.Test.YthjcnijageiaiaaSpaQ
namespace Go.Proofs.Ythjcnijageiaiaa
open Go.RowKit Go.Shelf
set_option linter.unusedVariables false
set_option maxRecDepth 100000
set_option linter.unusedSimpArgs false

/-- what the spans of m, whether they may be or not, hold -/
def AllOf (m : List Sp) (r : List Sp) : Prop := mayS r = true ∧ ∀ x, memS r x = memS m x
theorem AllOf.nil : AllOf [] [] := ⟨rfl, fun x => rfl⟩
theorem AllOf.add {m r q : List Sp} {s : Sp} (h : AllOf m r) (k : AddOf r s q) : AllOf (m ++ [s]) q := ⟨k.1, fun x => by
  rw [k.2, h.2, memS_app, memS_cons, memS_nil, Bool.or_false]⟩
theorem AllOf.add' {m r q : List Sp} {s : Sp} (h : AllOf m r) (k : AddOf r s q) : AllOf (s :: m) q := ⟨k.1, fun x => by
  rw [k.2, h.2, memS_cons, Bool.or_comm]⟩
theorem AllOf.one {m r q : List Sp} (h : AllOf m r) (k : AllOf m q) : r = q := may_ext h.1 k.1 fun x => (h.2 x).trans (k.2 x).symm
theorem AllOf.holds {m r : List Sp} {s : Sp} (h : AllOf m r) (hm : s ∈ m) (hs : s.1 ≤ s.2) : holdsS r s = true := (holds_iff h.1 hs).2 fun x hx => by
  rw [h.2]
  exact (memS_iff m x).2 ⟨s, hm, (inS_iff s x).1 hx⟩
theorem drop_step {l : List Sp} {k : Nat} (hk : k < l.length) : l.drop (l.length - (k + 1)) = l[l.length - (k + 1)]'(by omega) :: l.drop (l.length - k) := by
  have := List.drop_eq_getElem_cons (l := l) (i := l.length - (k + 1)) (by omega)
  rw [this, show l.length - (k + 1) + 1 = l.length - k by omega]

end Go.Proofs.Ythjcnijageiaiaa
