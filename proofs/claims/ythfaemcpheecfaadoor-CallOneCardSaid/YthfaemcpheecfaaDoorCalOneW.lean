/- CallOne: the walk. -/
import Derived.Test.YthfaemcpheecfaaDoorAnyA
import Derived.Test.YthfaemcpheecfaaDoorCalL
import Derived.Test.YthfaemcpheecfaaDoorCalOneKa
import Derived.Test.YthfaemcpheecfaaDoorCalOneKb
import Derived.Test.YthfaemcpheecfaaDoorCalOneKc
import Derived.Test.YthfaemcpheecfaaDoorCalOneN
import Derived.Test.YthfaemcpheecfaaDoorCalOneP
namespace Go.Proofs.YthfaemcpheecfaaDoor
open Go.RowKit Go.Shelf
set_option linter.unusedVariables false
set_option maxRecDepth 100000
set_option linter.unusedSimpArgs false

theorem one10_walk (c : CallX) (u : Value) (n : Nat) (s : ByteArray) (w : World) (hT : Tabs w) (hc : CalV w (· < w.heap.size) c u) (hn : n < 4294967296) :
    Calls Tryd.prog 5 #[.agg (calCells c u).toArray, .int .u32 n, .string s] w fun e w' => e = .returned (.bool true) ∧ Below w.heap.size w w' := by
  by_cases hm : mayX c = true
  · by_cases h0 : n = 0
    · exact one10_zero c u n s w hT hc hn hm h0
    · by_cases hs : s = ⟨#[]⟩
      · exact one10_empty c u n s w hT hc hn hm h0 hs
      · have hk : kindX c.kind = true := by unfold mayX at hm; simp only [Bool.and_eq_true] at hm; exact hm.1.1.1.1.1.1.1.1
        rcases kind_cases _ hk with h | h | h | h | h | h | h | h | h | h | h | h
        · exact one10_k1 c u n s w hT hc hn hm h0 hs h
        · exact one10_k2 c u n s w hT hc hn hm h0 hs h
        · exact one10_k3 c u n s w hT hc hn hm h0 hs h
        · exact one10_k4 c u n s w hT hc hn hm h0 hs h
        · exact one10_k5 c u n s w hT hc hn hm h0 hs h
        · exact one10_k6 c u n s w hT hc hn hm h0 hs h
        · exact one10_k7 c u n s w hT hc hn hm h0 hs h
        · exact one10_k8 c u n s w hT hc hn hm h0 hs h
        · exact one10_k9 c u n s w hT hc hn hm h0 hs h
        · exact one10_k10 c u n s w hT hc hn hm h0 hs h
        · exact one10_k11 c u n s w hT hc hn hm h0 hs h
        · exact one10_k12 c u n s w hT hc hn hm h0 hs h
  · exact one10_no c u n s w hT hc hn (by simpa using hm)

end Go.Proofs.YthfaemcpheecfaaDoor
