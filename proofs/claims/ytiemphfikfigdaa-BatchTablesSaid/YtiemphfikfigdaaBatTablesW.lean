/- BatchTables: the walk. -/
import Derived.Test.YtiemphfikfigdaaBatBoth
namespace Go.Proofs.Ytiemphfikfigdaa
open Go.RowKit Go.Shelf
set_option linter.unusedVariables false
set_option maxRecDepth 100000
set_option linter.unusedSimpArgs false

set_option maxHeartbeats 8000000 in
theorem tables7_walk (K : K7) (l0 : List Rw) (A0 : Option Addr) (c0 : Nat) (l1 : List Rw) (A1 : Option Addr) (c1 : Nat) (l2 : List Ch) (A2 : Option Addr) (c2 : Nat) (x : Key) (w : World)
    (hs0 : ∀ z ∈ l0, z.1.length ≤ maxLen) (r0 : RdX rowE w (· < w.heap.size) A0 l0) (hc0 : l0.length ≤ c0) (hm0 : c0 ≤ maxLen) (n0 : A0 = none → l0 = [] ∧ c0 = 0)
    (hs1 : ∀ z ∈ l1, z.1.length ≤ maxLen) (r1 : RdX rowE w (· < w.heap.size) A1 l1) (hc1 : l1.length ≤ c1) (hm1 : c1 ≤ maxLen) (n1 : A1 = none → l1 = [] ∧ c1 = 0)
    (hs2 : ∀ z ∈ l2, z.1.length ≤ maxLen) (r2 : RdX chgE w (· < w.heap.size) A2 l2) (hc2 : l2.length ≤ c2) (hm2 : c2 ≤ maxLen) (n2 : A2 = none → l2 = [] ∧ c2 = 0) (hx : x.length ≤ maxLen) :
    Calls Try.prog 4 #[.slice A0 l0.length c0, .slice A1 l1.length c1, .slice A2 l2.length c2, .string ⟨x.toArray⟩] w fun e w' => e = .returned (.bool true) ∧ Below w.heap.size w w' := by
  have HK := Lib.hid K
  have B0 := Lib.hid (Below.refl w.heap.size w)
  have T0 := Lib.hid (show LsV rowE w (· < w.heap.size) (.slice A0 l0.length c0) l0 from ⟨A0, c0, rfl, r0, hc0, hm0, n0⟩)
  have U0 := Lib.hid (show LsV rowE w (· < w.heap.size) (.slice A1 l1.length c1) l1 from ⟨A1, c1, rfl, r1, hc1, hm1, n1⟩)
  have L0 := Lib.hid (show LsV chgE w (· < w.heap.size) (.slice A2 l2.length c2) l2 from ⟨A2, c2, rfl, r2, hc2, hm2, n2⟩)
  have HS0 := Lib.hid hs0
  have HS1 := Lib.hid hs1
  have HS2 := Lib.hid hs2
  unfold maxLen at hx hm0 hm1 hm2
  have hm0' : (l0.length : Int) ≤ 9223372036854775807 := by omega
  have hm1' : (l1.length : Int) ≤ 9223372036854775807 := by omega
  have hm2' : (l2.length : Int) ≤ 9223372036854775807 := by omega
  have HX := Lib.hid hx
  clear K r0 r1 r2 n0 n1 n2 hs0 hs1 hs2 hx
  by_cases h0 : 60 < l0.length
  · have h0' : (60 : Int) < (l0.length : Int) := by omega
    go_enter Try.func4, Try.ntmps4
    go_wp2_with fail
    refine (lives7_any HK.out _).mono ?_
    rintro e w1 ⟨rfl, hb⟩
    have B1 := Lib.hid hb
    clear hb
    go_wp2_with fail
    go_ret
    exact ⟨rfl, B1.out⟩
  by_cases h1 : 60 < l1.length
  · have h0' : ¬ (60 : Int) < (l0.length : Int) := by omega
    have h1' : (60 : Int) < (l1.length : Int) := by omega
    go_enter Try.func4, Try.ntmps4
    go_wp2_with fail
    refine (lives7_any HK.out _).mono ?_
    rintro e w1 ⟨rfl, hb⟩
    have B1 := Lib.hid hb
    clear hb
    go_wp2_with fail
    go_ret
    exact ⟨rfl, B1.out⟩
  by_cases h2 : 60 < l2.length
  · have h0' : ¬ (60 : Int) < (l0.length : Int) := by omega
    have h1' : ¬ (60 : Int) < (l1.length : Int) := by omega
    have h2' : (60 : Int) < (l2.length : Int) := by omega
    go_enter Try.func4, Try.ntmps4
    go_wp2_with fail
    refine (lives7_any HK.out _).mono ?_
    rintro e w1 ⟨rfl, hb⟩
    have B1 := Lib.hid hb
    clear hb
    go_wp2_with fail
    go_ret
    exact ⟨rfl, B1.out⟩
  have h0' : ¬ (60 : Int) < (l0.length : Int) := by omega
  have h1' : ¬ (60 : Int) < (l1.length : Int) := by omega
  have h2' : ¬ (60 : Int) < (l2.length : Int) := by omega
  have HM0 := Lib.hid (show SmallR l0 from ⟨by omega, fun z hz => by have := HS0.out z hz; unfold maxLen at this; exact this⟩)
  have HM1 := Lib.hid (show SmallR l1 from ⟨by omega, fun z hz => by have := HS1.out z hz; unfold maxLen at this; exact this⟩)
  have HM2 := Lib.hid (show SmallC l2 from ⟨by omega, fun z hz => by have := HS2.out z hz; unfold maxLen at this; exact this⟩)
  have la := apply_len l2 l0
  have lr : (applyR l0 l2).length ≤ 120 := by unfold applyR; split <;> first | omega | simp
  have lk := between_len7 l0 l1
  go_enter Try.func4, Try.ntmps4
  go_wp2_with fail
  refine (apply_p HK.out HM0.out HM2.out (by omega) (by omega) T0.out L0.out).mono ?_
  rintro e w11 ⟨A11, c11, rfl, hp, hb⟩
  have X11 := Lib.hid hp
  clear hp
  have T11 := Lib.hid (T0.out.below hb)
  have U11 := Lib.hid (U0.out.below hb)
  have L11 := Lib.hid (L0.out.below hb)
  have B11 := Lib.hid (below_chain B0.out hb)
  clear hb T0 U0 L0 B0
  go_wp2_with fail
  refine (apply_r HM0.out HM2.out (by omega) (by omega) T11.out.at.2.1 L11.out.at.2.1).mono ?_
  rintro e w12 ⟨A12, c12, rfl, hp, hb⟩
  have Y12 := Lib.hid hp
  clear hp
  have T12 := Lib.hid (T11.out.below hb)
  have U12 := Lib.hid (U11.out.below hb)
  have B12 := Lib.hid (below_chain B11.out hb)
  have X12 := Lib.hid (X11.out.below hb)
  clear hb T11 U11 L11 B11 X11
  go_wp2_with fail
  refine (HK.out.may _ _ _ _ HM0.out T12.out).mono ?_
  rintro e w13 ⟨rfl, hb⟩
  have T13 := Lib.hid (T12.out.below hb)
  have U13 := Lib.hid (U12.out.below hb)
  have B13 := Lib.hid (below_chain B12.out hb)
  have X13 := Lib.hid (X12.out.below hb)
  have Y13 := Lib.hid (Y12.out.below hb)
  clear hb T12 U12 B12 X12 Y12
  go_wp2_with fail
  refine (MayRef_any l0 A0 c0 _ _ HM0.out T13.out.at.2.1).mono ?_
  rintro e w14 ⟨rfl, hb⟩
  have T14 := Lib.hid (T13.out.below hb)
  have U14 := Lib.hid (U13.out.below hb)
  have B14 := Lib.hid (below_chain B13.out hb)
  have X14 := Lib.hid (X13.out.below hb)
  have Y14 := Lib.hid (Y13.out.below hb)
  clear hb T13 U13 B13 X13 Y13
  have hse : (mayP l0 != mayP l0) = false := by simp
  have hee : (applyE l0 l2 != applyE l0 l2) = false := by simp
  have hrs := Rows_any (applyR l0 l2) (applyR l0 l2) A11 A12 c11 c12 _ _ w14 (by omega) (by omega) X14.out.at.2.1 Y14.out.at.2.1
  rw [decide_eq_true rfl] at hrs
  clear X14 Y14
  go_wp2_with fail
  refine hrs.mono ?_
  clear hrs
  rintro e w15 ⟨rfl, hb⟩
  have T15 := Lib.hid (T14.out.below hb)
  have U15 := Lib.hid (U14.out.below hb)
  have B15 := Lib.hid (below_chain B14.out hb)
  clear hb T14 U14 B14
  go_wp2_with fail
  refine (betw_p HK.out HM0.out HM1.out (by omega) (by omega) T15.out U15.out).mono ?_
  rintro e w16 ⟨A16, c16, rfl, hp, hb⟩
  have X16 := Lib.hid hp
  clear hp
  have T16 := Lib.hid (T15.out.below hb)
  have U16 := Lib.hid (U15.out.below hb)
  have B16 := Lib.hid (below_chain B15.out hb)
  clear hb T15 U15 B15
  go_wp2_with fail
  refine (betw_r HM0.out HM1.out (by omega) (by omega) T16.out.at.2.1 U16.out.at.2.1).mono ?_
  rintro e w17 ⟨A17, c17, rfl, hp, hb⟩
  have Y17 := Lib.hid hp
  clear hp
  have T17 := Lib.hid (T16.out.below hb)
  have B17 := Lib.hid (below_chain B16.out hb)
  have X17 := Lib.hid (X16.out.below hb)
  clear hb T16 U16 B16 X16
  go_wp2_with fail
  refine (find_p HK.out HM0.out (by omega) HX.out T17.out).mono ?_
  rintro e w18 ⟨A18, c18, rfl, hp, hb⟩
  have V18 := Lib.hid hp
  clear hp
  have T18 := Lib.hid (T17.out.below hb)
  have B18 := Lib.hid (below_chain B17.out hb)
  have X18 := Lib.hid (X17.out.below hb)
  have Y18 := Lib.hid (Y17.out.below hb)
  clear hb T17 B17 X17 Y17
  go_wp2_with fail
  refine (find_r (key := x) HM0.out T18.out.at.2.1).mono ?_
  rintro e w19 ⟨A19, c19, rfl, hp, hb⟩
  have Z19 := Lib.hid hp
  clear hp
  have B19 := Lib.hid (below_chain B18.out hb)
  have X19 := Lib.hid (X18.out.below hb)
  have Y19 := Lib.hid (Y18.out.below hb)
  have V19 := Lib.hid (V18.out.below hb)
  clear hb T18 B18 X18 Y18 V18
  have hch := Changes_any (betwR l0 l1) (betwR l0 l1) A16 A17 c16 c17 _ _ w19 (by omega) (by omega) X19.out.at.2.1 Y19.out.at.2.1
  rw [decide_eq_true rfl] at hch
  have hge : (betwE l0 l1 == betwE l0 l1) = true := by simp
  clear X19 Y19
  go_wp2_with fail
  refine hch.mono ?_
  clear hch
  rintro e w20 ⟨rfl, hb⟩
  have B20 := Lib.hid (below_chain B19.out hb)
  have V20 := Lib.hid (V19.out.below hb)
  have Z20 := Lib.hid (Z19.out.below hb)
  clear hb B19 V19 Z19
  have hsm := Same_any A18 A19 ((findP l0 x).getD []) ((findP l0 x).getD []) c18 c19 w20 V20.out.at.2.1 Z20.out.at.2.1
  rw [show (((findP l0 x).getD []) == ((findP l0 x).getD [])) = true by simp] at hsm
  have hie : ((findP l0 x).isSome == (findP l0 x).isSome) = true := by simp
  clear V20 Z20
  go_wp2_with fail
  refine hsm.mono ?_
  clear hsm
  rintro e _ ⟨rfl, rfl⟩
  go_wp2_with fail
  refine (lives7_any HK.out _).mono ?_
  rintro e w21 ⟨rfl, hb⟩
  have B21 := Lib.hid (below_chain B20.out hb)
  clear hb B20
  go_wp2_with fail
  go_ret
  exact ⟨rfl, B21.out⟩

end Go.Proofs.Ytiemphfikfigdaa
