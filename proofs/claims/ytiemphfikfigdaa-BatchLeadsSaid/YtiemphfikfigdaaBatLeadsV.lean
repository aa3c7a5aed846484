/- BatchLeads: its paths, told apart. -/
import Derived.Test.YtiemphfikfigdaaBatLeadsA
import Derived.Test.YtiemphfikfigdaaBatLeadsB
import Derived.Test.YtiemphfikfigdaaBatLeadsC
import Derived.Test.YtiemphfikfigdaaBatLeadsD
namespace Go.Proofs.Ytiemphfikfigdaa
open Go.RowKit Go.Shelf
set_option linter.unusedVariables false
set_option maxRecDepth 100000
set_option linter.unusedSimpArgs false

theorem leads7_walk (K : K7) (l0 : List Rw) (A0 : Option Addr) (c0 : Nat) (l1 : List Rw) (A1 : Option Addr) (c1 : Nat) (l2 : List Ch) (A2 : Option Addr) (c2 : Nat) (n3 : Nat) (w : World)
    (hs0 : ∀ z ∈ l0, z.1.length ≤ maxLen) (r0 : RdX rowE w (· < w.heap.size) A0 l0) (hc0 : l0.length ≤ c0) (hm0 : c0 ≤ maxLen) (n0 : A0 = none → l0 = [] ∧ c0 = 0)
    (hs1 : ∀ z ∈ l1, z.1.length ≤ maxLen) (r1 : RdX rowE w (· < w.heap.size) A1 l1) (hc1 : l1.length ≤ c1) (hm1 : c1 ≤ maxLen) (n1 : A1 = none → l1 = [] ∧ c1 = 0)
    (hs2 : ∀ z ∈ l2, z.1.length ≤ maxLen) (r2 : RdX chgE w (· < w.heap.size) A2 l2) (hc2 : l2.length ≤ c2) (hm2 : c2 ≤ maxLen) (n2 : A2 = none → l2 = [] ∧ c2 = 0) (hi3 : n3 < 256) :
    Calls Try.prog 6 #[.slice A0 l0.length c0, .slice A1 l1.length c1, .slice A2 l2.length c2, .int .u8 (n3 : Int)] w fun e w' => e = .returned (.bool true) ∧ Below w.heap.size w w' := by
  by_cases hl : 60 < l0.length ∨ 60 < l1.length ∨ 60 < l2.length
  · exact leads7_long K l0 A0 c0 l1 A1 c1 l2 A2 c2 n3 w hs0 r0 hc0 hm0 n0 hs1 r1 hc1 hm1 n1 hs2 r2 hc2 hm2 n2 hi3 hl
  have h0 : ¬ 60 < l0.length := fun h => hl (.inl h)
  have h1 : ¬ 60 < l1.length := fun h => hl (.inr (.inl h))
  have h2 : ¬ 60 < l2.length := fun h => hl (.inr (.inr h))
  clear hl
  cases hA : (mayP l0 && mayCP l2)
  · cases hB : (mayP l0 && mayP l1)
    · exact leads7_no_no K l0 A0 c0 l1 A1 c1 l2 A2 c2 n3 w hs0 r0 hc0 hm0 n0 hs1 r1 hc1 hm1 n1 hs2 r2 hc2 hm2 n2 hi3 h0 h1 h2 hA hB
    · rcases Nat.eq_zero_or_pos (betweenP l0 l1).length with hN | hN
      · exact leads7_no_none K l0 A0 c0 l1 A1 c1 l2 A2 c2 n3 w hs0 r0 hc0 hm0 n0 hs1 r1 hc1 hm1 n1 hs2 r2 hc2 hm2 n2 hi3 h0 h1 h2 hA hB (List.eq_nil_of_length_eq_zero hN)
      · exact leads7_no_some K l0 A0 c0 l1 A1 c1 l2 A2 c2 n3 w hs0 r0 hc0 hm0 n0 hs1 r1 hc1 hm1 n1 hs2 r2 hc2 hm2 n2 hi3 h0 h1 h2 hA hB hN
  · cases hB : (mayP l0 && mayP l1)
    · exact leads7_yes_no K l0 A0 c0 l1 A1 c1 l2 A2 c2 n3 w hs0 r0 hc0 hm0 n0 hs1 r1 hc1 hm1 n1 hs2 r2 hc2 hm2 n2 hi3 h0 h1 h2 hA hB
    · rcases Nat.eq_zero_or_pos (betweenP l0 l1).length with hN | hN
      · exact leads7_yes_none K l0 A0 c0 l1 A1 c1 l2 A2 c2 n3 w hs0 r0 hc0 hm0 n0 hs1 r1 hc1 hm1 n1 hs2 r2 hc2 hm2 n2 hi3 h0 h1 h2 hA hB (List.eq_nil_of_length_eq_zero hN)
      · exact leads7_yes_some K l0 A0 c0 l1 A1 c1 l2 A2 c2 n3 w hs0 r0 hc0 hm0 n0 hs1 r1 hc1 hm1 n1 hs2 r2 hc2 hm2 n2 hi3 h0 h1 h2 hA hB hN

end Go.Proofs.Ytiemphfikfigdaa
