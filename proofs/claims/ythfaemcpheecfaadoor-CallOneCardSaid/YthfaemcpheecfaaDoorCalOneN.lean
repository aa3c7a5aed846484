/- CallOne: the ends before anything is changed. -/
import Derived.Test.YthfaemcpheecfaaDoorAnyA
import Derived.Test.YthfaemcpheecfaaDoorCalL
import Derived.Test.YthfaemcpheecfaaDoorCalOneP
namespace Go.Proofs.YthfaemcpheecfaaDoor
open Go.RowKit Go.Shelf
set_option linter.unusedVariables false
set_option maxRecDepth 100000
set_option linter.unusedSimpArgs false

set_option maxHeartbeats 16000000 in
theorem one10_no (c : CallX) (u : Value) (n : Nat) (s : ByteArray) (w : World) (hT : Tabs w) (hc : CalV w (· < w.heap.size) c u) (hn : n < 4294967296) (hm : mayX c = false) :
    Calls Tryd.prog 5 #[.agg (calCells c u).toArray, .int .u32 n, .string s] w fun e w' => e = .returned (.bool true) ∧ Below w.heap.size w w' := by
  obtain ⟨A, cp, rfl, -⟩ := id hc.1
  have HCV := Lib.hid hc
  have HT := Lib.hid hT
  clear hc hT
  have HM := Lib.hid hm
  clear hm
  go_enter Tryd.func5, Tryd.ntmps5
  go_wp2_with (first
    | ((with_reducible show wpList _ _ _ _ _ w); refine wpList_boxS rfl 28 _ rfl (calCells c (.slice A c.data.length cp)) rfl ?_; intro g1 w1 hk1 hb1 hg1; go_frame; have C1 := Lib.hid hk1; have B1 := Lib.hid hb1; clear hk1 hb1 hg1)
    | ((with_reducible show wpList _ _ _ _ _ w1); refine wpList_loadS rfl 28 _ rfl g1 rfl (calCells c (.slice A c.data.length cp)) C1.out _ Tryd.underlying28 rfl infoCall ?_; go_frame)
    | fail)
  have K0_1 := Lib.hid (B1.out)
  have HY := Lib.hid (May_v (HCV.out.below K0_1.out) (HT.out.below K0_1.out))
  rw [HM.out] at HY
  refine HY.out.mono ?_
  rintro e w2 ⟨rfl, hb⟩
  have K0_2 := Lib.hid (below_chain K0_1.out hb)
  have K1_2 := Lib.hid (hb)
  clear hb HY
  go_wp2_with fail
  refine (lives10_v _ (HT.out.below K0_2.out)).mono ?_
  rintro e w3 ⟨rfl, hb⟩
  have K0_3 := Lib.hid (below_chain K0_2.out hb)
  have K1_3 := Lib.hid (below_chain K1_2.out hb)
  clear hb
  go_wp2_with fail
  go_ret
  exact ⟨rfl, K0_3.out⟩
set_option maxHeartbeats 16000000 in
theorem one10_zero (c : CallX) (u : Value) (n : Nat) (s : ByteArray) (w : World) (hT : Tabs w) (hc : CalV w (· < w.heap.size) c u) (hn : n < 4294967296) (hm : mayX c = true) (h0 : n = 0) :
    Calls Tryd.prog 5 #[.agg (calCells c u).toArray, .int .u32 n, .string s] w fun e w' => e = .returned (.bool true) ∧ Below w.heap.size w w' := by
  obtain ⟨A, cp, rfl, -⟩ := id hc.1
  have HCV := Lib.hid hc
  have HT := Lib.hid hT
  clear hc hT
  subst h0
  have HM := Lib.hid hm
  clear hm
  go_enter Tryd.func5, Tryd.ntmps5
  go_wp2_with (first
    | ((with_reducible show wpList _ _ _ _ _ w); refine wpList_boxS rfl 28 _ rfl (calCells c (.slice A c.data.length cp)) rfl ?_; intro g1 w1 hk1 hb1 hg1; go_frame; have C1 := Lib.hid hk1; have B1 := Lib.hid hb1; clear hk1 hb1 hg1)
    | ((with_reducible show wpList _ _ _ _ _ w1); refine wpList_loadS rfl 28 _ rfl g1 rfl (calCells c (.slice A c.data.length cp)) C1.out _ Tryd.underlying28 rfl infoCall ?_; go_frame)
    | fail)
  have K0_1 := Lib.hid (B1.out)
  have HY := Lib.hid (May_v (HCV.out.below K0_1.out) (HT.out.below K0_1.out))
  rw [HM.out] at HY
  refine HY.out.mono ?_
  rintro e w2 ⟨rfl, hb⟩
  have K0_2 := Lib.hid (below_chain K0_1.out hb)
  have K1_2 := Lib.hid (hb)
  clear hb HY
  go_wp2_with fail
  refine (lives10_v _ (HT.out.below K0_2.out)).mono ?_
  rintro e w3 ⟨rfl, hb⟩
  have K0_3 := Lib.hid (below_chain K0_2.out hb)
  have K1_3 := Lib.hid (below_chain K1_2.out hb)
  clear hb
  go_wp2_with fail
  go_ret
  exact ⟨rfl, K0_3.out⟩
set_option maxHeartbeats 16000000 in
theorem one10_empty (c : CallX) (u : Value) (n : Nat) (s : ByteArray) (w : World) (hT : Tabs w) (hc : CalV w (· < w.heap.size) c u) (hn : n < 4294967296) (hm : mayX c = true) (h0 : n ≠ 0) (hs : s = ⟨#[]⟩) :
    Calls Tryd.prog 5 #[.agg (calCells c u).toArray, .int .u32 n, .string s] w fun e w' => e = .returned (.bool true) ∧ Below w.heap.size w w' := by
  obtain ⟨A, cp, rfl, -⟩ := id hc.1
  have HCV := Lib.hid hc
  have HT := Lib.hid hT
  clear hc hT
  subst hs
  have HM := Lib.hid hm
  clear hm
  go_enter Tryd.func5, Tryd.ntmps5
  go_wp2_with (first
    | ((with_reducible show wpList _ _ _ _ _ w); refine wpList_boxS rfl 28 _ rfl (calCells c (.slice A c.data.length cp)) rfl ?_; intro g1 w1 hk1 hb1 hg1; go_frame; have C1 := Lib.hid hk1; have B1 := Lib.hid hb1; clear hk1 hb1 hg1)
    | ((with_reducible show wpList _ _ _ _ _ w1); refine wpList_loadS rfl 28 _ rfl g1 rfl (calCells c (.slice A c.data.length cp)) C1.out _ Tryd.underlying28 rfl infoCall ?_; go_frame)
    | fail)
  have K0_1 := Lib.hid (B1.out)
  have HY := Lib.hid (May_v (HCV.out.below K0_1.out) (HT.out.below K0_1.out))
  rw [HM.out] at HY
  refine HY.out.mono ?_
  rintro e w2 ⟨rfl, hb⟩
  have K0_2 := Lib.hid (below_chain K0_1.out hb)
  have K1_2 := Lib.hid (hb)
  clear hb HY
  go_wp2_with fail
  refine (lives10_v _ (HT.out.below K0_2.out)).mono ?_
  rintro e w3 ⟨rfl, hb⟩
  have K0_3 := Lib.hid (below_chain K0_2.out hb)
  have K1_3 := Lib.hid (below_chain K1_2.out hb)
  clear hb
  go_wp2_with fail
  go_ret
  exact ⟨rfl, K0_3.out⟩

end Go.Proofs.YthfaemcpheecfaaDoor
