/- BatchTells: the walk. -/
import Derived.Test.YtiemphfikfigdaaBatBoth
import Derived.Test.YtiemphfikfigdaaTblK
namespace Go.Proofs.Ytiemphfikfigdaa
open Go.RowKit Go.Shelf
set_option linter.unusedVariables false
set_option maxRecDepth 100000
set_option linter.unusedSimpArgs false

set_option maxHeartbeats 8000000 in
theorem tells7_walk (K : K7) (l0 : List Ch) (A0 : Option Addr) (c0 : Nat) (l1 : List UInt8) (A1 : Option Addr) (c1 : Nat) (x y : Key) (w : World)
    (hs : ∀ z ∈ l0, z.1.length ≤ maxLen) (r0 : RdX chgE w (· < w.heap.size) A0 l0) (hc0 : l0.length ≤ c0) (hm0 : c0 ≤ maxLen) (n0 : A0 = none → l0 = [] ∧ c0 = 0)
    (r1 : Rd w A1 l1) (hc1 : l1.length ≤ c1) (hm1 : c1 ≤ maxLen) (n1 : A1 = none → l1 = [] ∧ c1 = 0) (hx : x.length ≤ maxLen) (hy : y.length ≤ maxLen) :
    Calls Try.prog 3 #[.slice A0 l0.length c0, .slice A1 l1.length c1, .string ⟨x.toArray⟩, .string ⟨y.toArray⟩] w fun e w' => e = .returned (.bool true) ∧ Below w.heap.size w w' := by
  have HK := Lib.hid K
  have B0 := Lib.hid (Below.refl w.heap.size w)
  have L0 := Lib.hid (show LsV chgE w (· < w.heap.size) (.slice A0 l0.length c0) l0 from ⟨A0, c0, rfl, r0, hc0, hm0, n0⟩)
  have R1 := Lib.hid r1
  have N1 := Lib.hid n1
  have HS := Lib.hid hs
  have hm0' : (l0.length : Int) ≤ 9223372036854775807 := by unfold maxLen at hm0; omega
  have hm1' : (l1.length : Int) ≤ 9223372036854775807 := by unfold maxLen at hm1; omega
  unfold maxLen at hx hy
  have HX := Lib.hid hx
  have HY := Lib.hid hy
  clear K r0 r1 n0 n1 hs hx hy
  by_cases h0 : 200 < l0.length
  · have h0' : (200 : Int) < (l0.length : Int) := by omega
    go_enter Try.func3, Try.ntmps3
    go_wp2_with fail
    refine (lives7_any HK.out _).mono ?_
    rintro e w1 ⟨rfl, hb⟩
    have B1 := Lib.hid hb
    clear hb
    go_wp2_with fail
    go_ret
    exact ⟨rfl, B1.out⟩
  by_cases h1 : 262144 < l1.length
  · have h0' : ¬ (200 : Int) < (l0.length : Int) := by omega
    have h1' : (262144 : Int) < (l1.length : Int) := by omega
    go_enter Try.func3, Try.ntmps3
    go_wp2_with fail
    refine (lives7_any HK.out _).mono ?_
    rintro e w1 ⟨rfl, hb⟩
    have B1 := Lib.hid hb
    clear hb
    go_wp2_with fail
    go_ret
    exact ⟨rfl, B1.out⟩
  have h0' : ¬ (200 : Int) < (l0.length : Int) := by omega
  have h1' : ¬ (262144 : Int) < (l1.length : Int) := by omega
  have HSM := Lib.hid (show SmallC l0 from ⟨by omega, fun z hz => by have := HS.out z hz; unfold maxLen at this; exact this⟩)
  have hg4 := get_four l1
  go_enter Try.func3, Try.ntmps3
  go_wp2_with fail
  refine (Wide_ty l1 A1 c1 w (by omega) R1.out N1.out).mono ?_
  rintro e w1 ⟨g, cap, rfl, hcap, hcm, hv, hty, hg, hgw, hb⟩
  have W1 := Lib.hid (And.intro hcap hcm)
  have V1 := Lib.hid hv
  have L1 := Lib.hid (L0.out.below hb)
  have S1 := Lib.hid (R1.out.below hb)
  have B1 := Lib.hid (below_chain B0.out hb)
  clear hcap hcm hv hty hg hgw hb B0 L0 R1
  go_wp2_with fail
  refine (put_p HK.out HSM.out (by omega) L1.out).mono ?_
  rintro e w2 ⟨A2, c2, rfl, hp, hb⟩
  have P2 := Lib.hid hp
  have V2 := Lib.hid (V1.out.below hb)
  have L2 := Lib.hid (L1.out.below hb)
  have S2 := Lib.hid (S1.out.below hb)
  have B2 := Lib.hid (below_chain B1.out hb)
  clear hp hb V1 L1 S1 B1
  go_wp2_with fail
  refine (put_r HSM.out (by omega) L2.out.at.2.1).mono ?_
  rintro e w3 ⟨A3, c3, rfl, hp, hb⟩
  have Q3 := Lib.hid hp
  have P3 := Lib.hid (P2.out.below hb)
  have V3 := Lib.hid (V2.out.below hb)
  have L3 := Lib.hid (L2.out.below hb)
  have S3 := Lib.hid (S2.out.below hb)
  have B3 := Lib.hid (below_chain B2.out hb)
  clear hp hb P2 V2 L2 S2 B2
  go_wp2_with fail
  refine (get_p HK.out (F := anyB) (b := l1) (by omega) ⟨_, _, rfl, (rd_prefix V3.out).f fun _ _ _ _ => trivial, (fun e => by cases e), by have := W1.out.1; omega, W1.out.2⟩).mono ?_
  rintro e w4 ⟨A4, c4, rfl, hp, hb⟩
  have M4 := Lib.hid hp
  have Q4 := Lib.hid (Q3.out.below hb)
  have P4 := Lib.hid (P3.out.below hb)
  have V4 := Lib.hid (V3.out.below hb)
  have L4 := Lib.hid (L3.out.below hb)
  have S4 := Lib.hid (S3.out.below hb)
  have B4 := Lib.hid (below_chain B3.out hb)
  clear hp hb Q3 P3 V3 L3 S3 B3
  go_wp2_with fail
  refine (get_r (by omega) S4.out hc1 hm1).mono ?_
  rintro e w5 ⟨A5, c5, rfl, hp, hb⟩
  have K5 := Lib.hid hp
  have M5 := Lib.hid (M4.out.below hb)
  have Q5 := Lib.hid (Q4.out.below hb)
  have P5 := Lib.hid (P4.out.below hb)
  have V5 := Lib.hid (V4.out.below hb)
  have L5 := Lib.hid (L4.out.below hb)
  have S5 := Lib.hid (S4.out.below hb)
  have B5 := Lib.hid (below_chain B4.out hb)
  clear hp hb M4 Q4 P4 V4 L4 S4 B4
  go_wp2_with fail
  refine (HK.out.mayC _ _ _ _ HSM.out L5.out).mono ?_
  rintro e w6 ⟨rfl, hb⟩
  have K6 := Lib.hid (K5.out.below hb)
  have M6 := Lib.hid (M5.out.below hb)
  have Q6 := Lib.hid (Q5.out.below hb)
  have P6 := Lib.hid (P5.out.below hb)
  have V6 := Lib.hid (V5.out.below hb)
  have L6 := Lib.hid (L5.out.below hb)
  have S6 := Lib.hid (S5.out.below hb)
  have B6 := Lib.hid (below_chain B5.out hb)
  clear hb K5 M5 Q5 P5 V5 L5 S5 B5
  go_wp2_with fail
  refine (MayCRef_any l0 A0 c0 _ _ HSM.out L6.out.at.2.1).mono ?_
  rintro e w7 ⟨rfl, hb⟩
  have K7' := Lib.hid (K6.out.below hb)
  have M7 := Lib.hid (M6.out.below hb)
  have Q7 := Lib.hid (Q6.out.below hb)
  have P7 := Lib.hid (P6.out.below hb)
  have V7 := Lib.hid (V6.out.below hb)
  have S7 := Lib.hid (S6.out.below hb)
  have B7 := Lib.hid (below_chain B6.out hb)
  clear hb K6 M6 Q6 P6 V6 L6 S6 B6
  have hse : (mayCP l0 != mayCP l0) = false := by simp
  have hee : (putE l0 != putE l0) = false := by simp
  have hge : (getE7 l1 != getE7 l1) = false := by simp
  have hsm := Same_any A2 A3 (putR l0) (putR l0) c2 c3 w7 P7.out.at.2.1 Q7.out.at.2.1
  rw [show (putR l0 == putR l0) = true by simp] at hsm
  clear P7 Q7
  go_wp2_with fail
  refine hsm.mono ?_
  clear hsm
  rintro e _ ⟨rfl, rfl⟩
  have hch := Changes_any (getR l1) (getR l1) A4 A5 c4 c5 _ _ w7 (by omega) (by omega) M7.out.at.2.1 K7'.out.at.2.1
  rw [decide_eq_true rfl] at hch
  clear M7 K7'
  go_wp2_with fail
  refine hch.mono ?_
  clear hch
  rintro e w8 ⟨rfl, hb⟩
  have V8 := Lib.hid (V7.out.below hb)
  have S8 := Lib.hid (S7.out.below hb)
  have B8 := Lib.hid (below_chain B7.out hb)
  clear hb V7 S7 B7
  go_wp2_with fail
  refine (HK.out.shared x y _ HX.out HY.out).mono ?_
  rintro e w9 ⟨rfl, hb⟩
  have V9 := Lib.hid (V8.out.below hb)
  have S9 := Lib.hid (S8.out.below hb)
  have B9 := Lib.hid (below_chain B8.out hb)
  clear hb V8 S8 B8
  go_wp2_with fail
  refine (SharedRef_any x y _ HX.out HY.out).mono ?_
  rintro e w10 ⟨rfl, hb⟩
  have V10 := Lib.hid (V9.out.below hb)
  have S10 := Lib.hid (S9.out.below hb)
  have B10 := Lib.hid (below_chain B9.out hb)
  clear hb V9 S9 B9
  have hsh : ((sharedP x y : Int) == (sharedP x y : Int)) = true := by simp
  go_wp2_with fail
  refine (Left_any l1 A1 c1 g cap w10 W1.out.1 W1.out.2 V10.out S10.out).mono ?_
  rintro e _ ⟨rfl, rfl⟩
  go_wp2_with fail
  refine (lives7_any HK.out _).mono ?_
  rintro e w11 ⟨rfl, hb⟩
  have B11 := Lib.hid (below_chain B10.out hb)
  clear hb B10
  go_wp2_with fail
  go_ret
  exact ⟨rfl, B11.out⟩

end Go.Proofs.Ytiemphfikfigdaa
