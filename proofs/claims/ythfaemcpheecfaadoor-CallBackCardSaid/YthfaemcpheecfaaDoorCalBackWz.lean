/- CallBack: the walk. -/
import Derived.Test.YthfaemcpheecfaaDoorCalBackWb
import Derived.Test.YthfaemcpheecfaaDoorCalBackWc
import Derived.Test.YthfaemcpheecfaaDoorCalBackWd
import Derived.Test.YthfaemcpheecfaaDoorCalR3
import Derived.Test.YthfaemcpheecfaaDoorTblK
namespace Go.Proofs.YthfaemcpheecfaaDoor
open Go.RowKit Go.Shelf
set_option linter.unusedVariables false
set_option maxRecDepth 100000
set_option linter.unusedSimpArgs false

theorem back10_walk (c : CallX) (u : Value) (l1 : List UInt8) (A1 : Option Addr) (c1 : Nat) (l2 : List UInt8) (A2 : Option Addr) (c2 : Nat) (cut : Int) (w : World) (hT : Tabs w) (hc : CalV w (· < w.heap.size) c u)
    (hl1 : l1.length ≤ 140737488351232) (rd1 : Rd w A1 l1) (hlc1 : l1.length ≤ c1) (hcm1 : c1 ≤ maxLen) (nil1 : A1 = none → l1 = [] ∧ c1 = 0)
    (hl2 : l2.length ≤ 140737488351232) (rd2 : Rd w A2 l2) (hlc2 : l2.length ≤ c2) (hcm2 : c2 ≤ maxLen) (nil2 : A2 = none → l2 = [] ∧ c2 = 0) (lo3 : -9223372036854775808 ≤ cut) (hi3 : cut ≤ 9223372036854775807) :
    Calls Tryd.prog 4 #[.agg (calCells c u).toArray, .slice A1 l1.length c1, .slice A2 l2.length c2, .int .i64 cut] w fun e w' => e = .returned (.bool true) ∧ Below w.heap.size w w' := by
  rcases hm : mayX c with _ | _
  · exact back10_no c u l1 A1 c1 l2 A2 c2 cut w hT hc hl1 rd1 hlc1 hcm1 nil1 hl2 rd2 hlc2 hcm2 nil2 lo3 hi3 hm
  by_cases he2 : l2 = []
  · by_cases h0 : 0 ≤ cut
    · obtain ⟨k, hcut⟩ := Int.eq_ofNat_of_zero_le h0
      by_cases h1 : k < (putX c).length
      · exact back10_in1 c u l1 A1 c1 l2 A2 c2 cut w hT hc hl1 rd1 hlc1 hcm1 nil1 hl2 rd2 hlc2 hcm2 nil2 lo3 hi3 hm he2 k hcut h1
      · exact back10_big1 c u l1 A1 c1 l2 A2 c2 cut w hT hc hl1 rd1 hlc1 hcm1 nil1 hl2 rd2 hlc2 hcm2 nil2 lo3 hi3 hm he2 k hcut h1
    · exact back10_neg1 c u l1 A1 c1 l2 A2 c2 cut w hT hc hl1 rd1 hlc1 hcm1 nil1 hl2 rd2 hlc2 hcm2 nil2 lo3 hi3 hm he2 h0
  · by_cases h0 : 0 ≤ cut
    · obtain ⟨k, hcut⟩ := Int.eq_ofNat_of_zero_le h0
      by_cases h1 : k < (putX c).length
      · exact back10_in0 c u l1 A1 c1 l2 A2 c2 cut w hT hc hl1 rd1 hlc1 hcm1 nil1 hl2 rd2 hlc2 hcm2 nil2 lo3 hi3 hm he2 k hcut h1
      · exact back10_big0 c u l1 A1 c1 l2 A2 c2 cut w hT hc hl1 rd1 hlc1 hcm1 nil1 hl2 rd2 hlc2 hcm2 nil2 lo3 hi3 hm he2 k hcut h1
    · exact back10_neg0 c u l1 A1 c1 l2 A2 c2 cut w hT hc hl1 rd1 hlc1 hcm1 nil1 hl2 rd2 hlc2 hcm2 nil2 lo3 hi3 hm he2 h0

end Go.Proofs.YthfaemcpheecfaaDoor
