/- 'lives' of layer 12's laws: the document's examples. -/
import Derived.Test.YthjcnijageiaiaaSpaK
namespace Go.Proofs.Ythjcnijageiaiaa
open Go.RowKit Go.Shelf
set_option linter.unusedVariables false
set_option maxRecDepth 100000
set_option linter.unusedSimpArgs false

set_option maxHeartbeats 8000000 in
theorem lives12_v (K : K12) (w : World) : Calls Try.prog 7 #[] w fun e w' => e = .returned (.bool true) ∧ Below w.heap.size w w' := by
  have HK := Lib.hid K
  clear K
  go_enter Try.func7, Try.ntmps7
  go_wp2_with fail
  refine (two_v _).mono ?_
  rintro e w1 ⟨g1, rfl, hl, hb⟩
  have L1 := Lib.hid hl
  have B1 := Lib.hid (hb)
  have Q1 := Lib.hid hb
  clear hl hb
  go_wp2_with fail
  refine (HK.out.add [(0, 4), (8, 9)] (4, 8) _ _ w1 (by decide) ⟨by decide, by decide⟩ L1.out).mono ?_
  intro e w2 hd
  obtain ⟨A2, c2, rfl, hl, ha⟩ := hd.is AddOf.one rfl (by decide) ex_add
  have L2 := Lib.hid hl
  have Q2 := Lib.hid ha.2
  have B2 := Lib.hid (below_chain B1.out ha.2)
  clear hd hl ha
  go_wp2_with (first
    | ((with_reducible show wpList _ _ _ _ _ w2); refine wpList_buildSpG (by rfl) _ rfl (0, 9) rfl ?_; intro g3 w3 hk1 hb1 hg1; go_frame; have L3 := Lib.hid (hk1.ls1 ⟨by decide, by decide⟩); have Q3 := Lib.hid hb1; have B3 := Lib.hid (below_chain B2.out hb1); clear hk1 hb1 hg1)
    | fail)
  refine (HK.out.cut [(0, 9)] (3, 5) _ _ w3 (by decide) ⟨by decide, by decide⟩ L3.out).mono ?_
  intro e w4 hd
  obtain ⟨A4, c4, rfl, hl, ha⟩ := hd.is CutOf.one rfl (by decide) ex_cut
  have L4 := Lib.hid hl
  have Q4 := Lib.hid ha.2
  have B4 := Lib.hid (below_chain B3.out ha.2)
  clear hd hl ha
  go_wp2_with (first
    | ((with_reducible show wpList _ _ _ _ _ w4); refine wpList_buildSpG (by rfl) _ rfl (4, 2) rfl ?_; intro g5 w5 hk1 hb1 hg1; go_frame; have L5 := Lib.hid (hk1.ls1 ⟨by decide, by decide⟩); have Q5 := Lib.hid hb1; have B5 := Lib.hid (below_chain B4.out hb1); clear hk1 hb1 hg1)
    | fail)
  refine (HK.out.add [(4, 2)] (0, 1) _ _ w5 (by decide) ⟨by decide, by decide⟩ L5.out).mono ?_
  intro e w6 hd
  obtain ⟨rfl, hb⟩ := hd.no (by decide)
  have Q6 := Lib.hid hb
  have B6 := Lib.hid (below_chain B5.out hb)
  clear hd hb
  go_wp2_with fail
  refine (HK.out.pages (60, 70) w6 ⟨by decide, by decide⟩).mono ?_
  rintro e w7 ⟨v7, rfl, hp⟩
  obtain ⟨A7, c7, e7, hr⟩ := hp.form
  rw [show pagesP (60, 70) = [0, 1] by decide] at hr e7
  subst e7
  have R7 := Lib.hid (hr.mono (G := (· < w7.heap.size)) fun k hk _ => hk)
  have Q7 := Lib.hid hp.2
  have B7 := Lib.hid (below_chain B6.out hp.2)
  have M2 := Lib.hid (((((L2.out.below Q3.out).below Q4.out).below Q5.out).below Q6.out).below Q7.out)
  have M4 := Lib.hid (((L4.out.below Q5.out).below Q6.out).below Q7.out)
  clear hr hp
  go_wp2_with (first
    | ((with_reducible show wpList _ _ _ _ _ w7); refine wpList_buildSpG (by rfl) _ rfl (0, 9) rfl ?_; intro g8 w8 hk1 hb1 hg1; go_frame; have L8 := Lib.hid (hk1.ls1 ⟨by decide, by decide⟩); have Q8 := Lib.hid hb1; have B8 := Lib.hid (below_chain B7.out hb1); clear hk1 hb1 hg1)
    | fail)
  refine (Spans_any [(0, 9)] [(0, 9)] _ _ _ _ _ _ w8 (by decide) (by decide) (M2.out.below Q8.out).1 L8.out.1).mono ?_
  rintro e w9 ⟨rfl, hb⟩
  have B9 := Lib.hid (below_chain B8.out hb)
  have Q9 := Lib.hid hb
  clear hb
  go_wp2_with (first
    | ((with_reducible show wpList _ _ _ _ _ w9); refine wpList_buildSp2 (by rfl) _ _ rfl (0, 3) (5, 9) rfl rfl ?_; intro g10 w10 hk1 hb1 hg1; go_frame; have L10 := Lib.hid (hk1.ls2 ⟨by decide, by decide⟩ ⟨by decide, by decide⟩); have Q10 := Lib.hid hb1; have B10 := Lib.hid (below_chain B9.out hb1); clear hk1 hb1 hg1)
    | fail)
  refine (Spans_any [(0, 3), (5, 9)] [(0, 3), (5, 9)] _ _ _ _ _ _ w10 (by decide) (by decide) (((M4.out.below Q8.out).below Q9.out).below Q10.out).1 L10.out.1).mono ?_
  rintro e w11 ⟨rfl, hb⟩
  have B11 := Lib.hid (below_chain B10.out hb)
  have Q11 := Lib.hid hb
  clear hb
  go_wp2_with fail
  refine (two_v _).mono ?_
  rintro e w12 ⟨g12, rfl, hl, hb⟩
  have L12 := Lib.hid hl
  have B12 := Lib.hid (below_chain B11.out hb)
  have Q12 := Lib.hid hb
  clear hl hb
  go_wp2_with fail
  refine (HK.out.has [(0, 4)] 4 _ _ w12 (by decide) (by decide) L12.out.take1).mono ?_
  rintro e w13 ⟨rfl, hb⟩
  have B13 := Lib.hid (below_chain B12.out hb)
  have Q13 := Lib.hid hb
  clear hb
  rw [show hasP [(0, 4)] 4 = false by decide]
  go_wp2_with fail
  refine (two_v _).mono ?_
  rintro e w14 ⟨g14, rfl, hl, hb⟩
  have L14 := Lib.hid hl
  have B14 := Lib.hid (below_chain B13.out hb)
  have Q14 := Lib.hid hb
  clear hl hb
  go_wp2_with fail
  refine (HK.out.holds [(0, 4), (8, 9)] (1, 3) _ _ w14 (by decide) ⟨by decide, by decide⟩ L14.out).mono ?_
  rintro e w15 ⟨rfl, hb⟩
  have B15 := Lib.hid (below_chain B14.out hb)
  have Q15 := Lib.hid hb
  clear hb
  rw [show holdsP [(0, 4), (8, 9)] (1, 3) = true by decide]
  go_wp2_with fail
  refine (two_v _).mono ?_
  rintro e w16 ⟨g16, rfl, hl, hb⟩
  have L16 := Lib.hid hl
  have B16 := Lib.hid (below_chain B15.out hb)
  have Q16 := Lib.hid hb
  clear hl hb
  go_wp2_with fail
  refine (HK.out.len [(0, 4), (8, 9)] _ _ w16 (by decide) L16.out).mono ?_
  rintro e w17 ⟨rfl, hb⟩
  have B17 := Lib.hid (below_chain B16.out hb)
  have Q17 := Lib.hid hb
  clear hb
  rw [show lenP [(0, 4), (8, 9)] = 5 by decide]
  go_wp2_with (first
    | ((with_reducible show wpList _ _ _ _ _ w17); refine wpList_buildPt2 (by rfl) _ _ rfl 0 1 rfl rfl ?_; intro g18 w18 hk1 hb1 hg1; go_frame; have L18 := Lib.hid (hk1.pt2 (by decide) (by decide)); have Q18 := Lib.hid hb1; have B18 := Lib.hid (below_chain B17.out hb1); clear hk1 hb1 hg1)
    | fail)
  refine (Ints_any [0, 1] [0, 1] _ _ _ _ _ _ w18 (by decide) (by decide) ((((((((((((R7.out.below Q8.out).below Q9.out).below Q10.out).below Q11.out).below Q12.out).below Q13.out).below Q14.out).below Q15.out).below Q16.out).below Q17.out).below Q18.out)) L18.out).mono ?_
  rintro e w19 ⟨rfl, hb⟩
  have B19 := Lib.hid (below_chain B18.out hb)
  have Q19 := Lib.hid hb
  clear hb
  go_wp2_with fail
  go_ret
  exact ⟨rfl, B19.out⟩

end Go.Proofs.Ythjcnijageiaiaa
