/- BatchLeads: a path, or two. -/
import Derived.Test.YtiemphfikfigdaaBatLeads0
namespace Go.Proofs.Ytiemphfikfigdaa
open Go.RowKit Go.Shelf
set_option linter.unusedVariables false
set_option maxRecDepth 100000
set_option linter.unusedSimpArgs false

set_option maxHeartbeats 8000000 in
theorem leads7_yes_no (K : K7) (l0 : List Rw) (A0 : Option Addr) (c0 : Nat) (l1 : List Rw) (A1 : Option Addr) (c1 : Nat) (l2 : List Ch) (A2 : Option Addr) (c2 : Nat) (n3 : Nat) (w : World)
    (hs0 : ∀ z ∈ l0, z.1.length ≤ maxLen) (r0 : RdX rowE w (· < w.heap.size) A0 l0) (hc0 : l0.length ≤ c0) (hm0 : c0 ≤ maxLen) (n0 : A0 = none → l0 = [] ∧ c0 = 0)
    (hs1 : ∀ z ∈ l1, z.1.length ≤ maxLen) (r1 : RdX rowE w (· < w.heap.size) A1 l1) (hc1 : l1.length ≤ c1) (hm1 : c1 ≤ maxLen) (n1 : A1 = none → l1 = [] ∧ c1 = 0)
    (hs2 : ∀ z ∈ l2, z.1.length ≤ maxLen) (r2 : RdX chgE w (· < w.heap.size) A2 l2) (hc2 : l2.length ≤ c2) (hm2 : c2 ≤ maxLen) (n2 : A2 = none → l2 = [] ∧ c2 = 0) (hi3 : n3 < 256) (h0 : ¬ 60 < l0.length) (h1 : ¬ 60 < l1.length) (h2 : ¬ 60 < l2.length) (hA : (mayP l0 && mayCP l2) = true) (hB : (mayP l0 && mayP l1) = false) :
    Calls Try.prog 6 #[.slice A0 l0.length c0, .slice A1 l1.length c1, .slice A2 l2.length c2, .int .u8 (n3 : Int)] w fun e w' => e = .returned (.bool true) ∧ Below w.heap.size w w' := by
  have HK := Lib.hid K
  have B0 := Lib.hid (Below.refl w.heap.size w)
  have T0 := Lib.hid (show LsV rowE w (· < w.heap.size) (.slice A0 l0.length c0) l0 from ⟨A0, c0, rfl, r0, hc0, hm0, n0⟩)
  have U0 := Lib.hid (show LsV rowE w (· < w.heap.size) (.slice A1 l1.length c1) l1 from ⟨A1, c1, rfl, r1, hc1, hm1, n1⟩)
  have L0 := Lib.hid (show LsV chgE w (· < w.heap.size) (.slice A2 l2.length c2) l2 from ⟨A2, c2, rfl, r2, hc2, hm2, n2⟩)
  have HS0 := Lib.hid hs0
  have HS1 := Lib.hid hs1
  have HS2 := Lib.hid hs2
  unfold maxLen at hm0 hm1 hm2
  have hm0' : (l0.length : Int) ≤ 9223372036854775807 := by omega
  have hm1' : (l1.length : Int) ≤ 9223372036854775807 := by omega
  have hm2' : (l2.length : Int) ≤ 9223372036854775807 := by omega
  clear K r0 r1 r2 n0 n1 n2 hs0 hs1 hs2
  have h0' : ¬ (60 : Int) < (l0.length : Int) := by omega
  have h1' : ¬ (60 : Int) < (l1.length : Int) := by omega
  have h2' : ¬ (60 : Int) < (l2.length : Int) := by omega
  have HM0 := Lib.hid (show SmallR l0 from ⟨by omega, fun z hz => by have := HS0.out z hz; unfold maxLen at this; exact this⟩)
  have HM1 := Lib.hid (show SmallR l1 from ⟨by omega, fun z hz => by have := HS1.out z hz; unfold maxLen at this; exact this⟩)
  have HM2 := Lib.hid (show SmallC l2 from ⟨by omega, fun z hz => by have := HS2.out z hz; unfold maxLen at this; exact this⟩)
  have HA := Lib.hid hA
  have HB := Lib.hid hB
  have ha1 := hA
  rw [Bool.and_eq_true] at ha1
  have HLO := Lib.hid (show (applyP l0 l2).length ≤ 120 by have := apply_len l2 l0; omega)
  have HMO := Lib.hid (may_apply ha1.1 ha1.2)
  have HSO := Lib.hid (smallR_of HMO.out (by have := HLO.out; omega))
  have HA2 := Lib.hid (show (mayP (applyP l0 l2) && mayCP l2) = true by rw [HMO.out, ha1.2]; rfl)
  have HTW := Lib.hid (apply_twice ha1.1 ha1.2)
  clear ha1
  clear hA hB
  go_enter Try.func6, Try.ntmps6
  go_wp2_with fail
  refine ((HK.out.apply _ _ _ _ _ _ _ HM0.out HM2.out (by omega) (by omega) T0.out L0.out).mono fun _ _ h => h.yes HA.out).mono ?_
  rintro e w1 ⟨Ax, cx, rfl, hp, hb⟩
  have X1 := Lib.hid hp
  clear hp
  have T1 := Lib.hid (T0.out.below hb)
  have U1 := Lib.hid (U0.out.below hb)
  have L1 := Lib.hid (L0.out.below hb)
  have B1 := Lib.hid (below_chain B0.out hb)
  clear hb T0 U0 L0 B0
  go_wp2_with fail
  refine ((HK.out.apply _ _ _ _ _ _ _ HSO.out HM2.out (by have := HLO.out; omega) (by omega) X1.out.rowE L1.out).mono fun _ _ h => h.yes HA2.out).mono ?_
  rintro e w2 ⟨Ay, cy, rfl, hp, hb⟩
  have Y2 := Lib.hid hp
  clear hp
  have T2 := Lib.hid (T1.out.below hb)
  have U2 := Lib.hid (U1.out.below hb)
  have B2 := Lib.hid (below_chain B1.out hb)
  have X2 := Lib.hid (X1.out.below hb)
  clear hb T1 U1 L1 B1 X1
  rw [HTW.out] at Y2 ⊢
  have hrs := Rows_any (applyP l0 l2) (applyP l0 l2) Ax Ay cx cy _ _ w2 (by have := HLO.out; omega) (by have := HLO.out; omega) X2.out.rowE.at.2.1 Y2.out.rowE.at.2.1
  rw [decide_eq_true rfl] at hrs
  go_wp2_with fail
  refine hrs.mono ?_
  clear hrs
  rintro e w3 ⟨rfl, hb⟩
  have T3 := Lib.hid (T2.out.below hb)
  have U3 := Lib.hid (U2.out.below hb)
  have B3 := Lib.hid (below_chain B2.out hb)
  have X3 := Lib.hid (X2.out.below hb)
  have Y3 := Lib.hid (Y2.out.below hb)
  clear hb T2 U2 B2 X2 Y2
  go_wp2_with fail
  refine (HK.out.may _ _ _ _ HSO.out X3.out.rowE).mono ?_
  rintro e w4 ⟨he, hb⟩
  have T4 := Lib.hid (T3.out.below hb)
  have U4 := Lib.hid (U3.out.below hb)
  have B4 := Lib.hid (below_chain B3.out hb)
  have X4 := Lib.hid (X3.out.below hb)
  have Y4 := Lib.hid (Y3.out.below hb)
  clear hb T3 U3 B3 X3 Y3
  rw [HMO.out] at he
  subst he
  clear X4 Y4
  go_wp2_with fail
  refine ((HK.out.betw _ _ _ _ _ _ _ HM0.out HM1.out (by omega) (by omega) T4.out U4.out).mono fun _ _ h => h.no HB.out).mono ?_
  rintro e w10 ⟨Ac, cc, rfl, hp, hb⟩
  have T10 := Lib.hid (T4.out.below hb)
  have U10 := Lib.hid (U4.out.below hb)
  have B10 := Lib.hid (below_chain B4.out hb)
  clear hp
  clear hb T4 U4 B4
  go_wp2_with fail
  refine (lives7_any HK.out _).mono ?_
  rintro e w90 ⟨rfl, hb⟩
  have B90 := Lib.hid (below_chain B10.out hb)
  clear hb B10
  go_wp2_with fail
  go_ret
  exact ⟨rfl, B90.out⟩
set_option maxHeartbeats 8000000 in
theorem leads7_yes_none (K : K7) (l0 : List Rw) (A0 : Option Addr) (c0 : Nat) (l1 : List Rw) (A1 : Option Addr) (c1 : Nat) (l2 : List Ch) (A2 : Option Addr) (c2 : Nat) (n3 : Nat) (w : World)
    (hs0 : ∀ z ∈ l0, z.1.length ≤ maxLen) (r0 : RdX rowE w (· < w.heap.size) A0 l0) (hc0 : l0.length ≤ c0) (hm0 : c0 ≤ maxLen) (n0 : A0 = none → l0 = [] ∧ c0 = 0)
    (hs1 : ∀ z ∈ l1, z.1.length ≤ maxLen) (r1 : RdX rowE w (· < w.heap.size) A1 l1) (hc1 : l1.length ≤ c1) (hm1 : c1 ≤ maxLen) (n1 : A1 = none → l1 = [] ∧ c1 = 0)
    (hs2 : ∀ z ∈ l2, z.1.length ≤ maxLen) (r2 : RdX chgE w (· < w.heap.size) A2 l2) (hc2 : l2.length ≤ c2) (hm2 : c2 ≤ maxLen) (n2 : A2 = none → l2 = [] ∧ c2 = 0) (hi3 : n3 < 256) (h0 : ¬ 60 < l0.length) (h1 : ¬ 60 < l1.length) (h2 : ¬ 60 < l2.length) (hA : (mayP l0 && mayCP l2) = true) (hB : (mayP l0 && mayP l1) = true) (hN : betweenP l0 l1 = []) :
    Calls Try.prog 6 #[.slice A0 l0.length c0, .slice A1 l1.length c1, .slice A2 l2.length c2, .int .u8 (n3 : Int)] w fun e w' => e = .returned (.bool true) ∧ Below w.heap.size w w' := by
  have HK := Lib.hid K
  have B0 := Lib.hid (Below.refl w.heap.size w)
  have T0 := Lib.hid (show LsV rowE w (· < w.heap.size) (.slice A0 l0.length c0) l0 from ⟨A0, c0, rfl, r0, hc0, hm0, n0⟩)
  have U0 := Lib.hid (show LsV rowE w (· < w.heap.size) (.slice A1 l1.length c1) l1 from ⟨A1, c1, rfl, r1, hc1, hm1, n1⟩)
  have L0 := Lib.hid (show LsV chgE w (· < w.heap.size) (.slice A2 l2.length c2) l2 from ⟨A2, c2, rfl, r2, hc2, hm2, n2⟩)
  have HS0 := Lib.hid hs0
  have HS1 := Lib.hid hs1
  have HS2 := Lib.hid hs2
  unfold maxLen at hm0 hm1 hm2
  have hm0' : (l0.length : Int) ≤ 9223372036854775807 := by omega
  have hm1' : (l1.length : Int) ≤ 9223372036854775807 := by omega
  have hm2' : (l2.length : Int) ≤ 9223372036854775807 := by omega
  clear K r0 r1 r2 n0 n1 n2 hs0 hs1 hs2
  have h0' : ¬ (60 : Int) < (l0.length : Int) := by omega
  have h1' : ¬ (60 : Int) < (l1.length : Int) := by omega
  have h2' : ¬ (60 : Int) < (l2.length : Int) := by omega
  have HM0 := Lib.hid (show SmallR l0 from ⟨by omega, fun z hz => by have := HS0.out z hz; unfold maxLen at this; exact this⟩)
  have HM1 := Lib.hid (show SmallR l1 from ⟨by omega, fun z hz => by have := HS1.out z hz; unfold maxLen at this; exact this⟩)
  have HM2 := Lib.hid (show SmallC l2 from ⟨by omega, fun z hz => by have := HS2.out z hz; unfold maxLen at this; exact this⟩)
  have HA := Lib.hid hA
  have HB := Lib.hid hB
  have ha1 := hA
  rw [Bool.and_eq_true] at ha1
  have HLO := Lib.hid (show (applyP l0 l2).length ≤ 120 by have := apply_len l2 l0; omega)
  have HMO := Lib.hid (may_apply ha1.1 ha1.2)
  have HSO := Lib.hid (smallR_of HMO.out (by have := HLO.out; omega))
  have HA2 := Lib.hid (show (mayP (applyP l0 l2) && mayCP l2) = true by rw [HMO.out, ha1.2]; rfl)
  have HTW := Lib.hid (apply_twice ha1.1 ha1.2)
  clear ha1
  have hb1 := hB
  rw [Bool.and_eq_true] at hb1
  have HP0 := Lib.hid hb1.1
  have HP1 := Lib.hid hb1.2
  have HMB := Lib.hid (may_between hb1.1 hb1.2)
  have HAB := Lib.hid (apply_between hb1.1 hb1.2)
  have HLB := Lib.hid (show (betweenP l0 l1).length ≤ 120 by have := between_len7 l0 l1; unfold betwR at this; rw [if_pos hB] at this; omega)
  have HN := Lib.hid hN
  clear hb1 hN
  clear hA hB
  go_enter Try.func6, Try.ntmps6
  go_wp2_with fail
  refine ((HK.out.apply _ _ _ _ _ _ _ HM0.out HM2.out (by omega) (by omega) T0.out L0.out).mono fun _ _ h => h.yes HA.out).mono ?_
  rintro e w1 ⟨Ax, cx, rfl, hp, hb⟩
  have X1 := Lib.hid hp
  clear hp
  have T1 := Lib.hid (T0.out.below hb)
  have U1 := Lib.hid (U0.out.below hb)
  have L1 := Lib.hid (L0.out.below hb)
  have B1 := Lib.hid (below_chain B0.out hb)
  clear hb T0 U0 L0 B0
  go_wp2_with fail
  refine ((HK.out.apply _ _ _ _ _ _ _ HSO.out HM2.out (by have := HLO.out; omega) (by omega) X1.out.rowE L1.out).mono fun _ _ h => h.yes HA2.out).mono ?_
  rintro e w2 ⟨Ay, cy, rfl, hp, hb⟩
  have Y2 := Lib.hid hp
  clear hp
  have T2 := Lib.hid (T1.out.below hb)
  have U2 := Lib.hid (U1.out.below hb)
  have B2 := Lib.hid (below_chain B1.out hb)
  have X2 := Lib.hid (X1.out.below hb)
  clear hb T1 U1 L1 B1 X1
  rw [HTW.out] at Y2 ⊢
  have hrs := Rows_any (applyP l0 l2) (applyP l0 l2) Ax Ay cx cy _ _ w2 (by have := HLO.out; omega) (by have := HLO.out; omega) X2.out.rowE.at.2.1 Y2.out.rowE.at.2.1
  rw [decide_eq_true rfl] at hrs
  go_wp2_with fail
  refine hrs.mono ?_
  clear hrs
  rintro e w3 ⟨rfl, hb⟩
  have T3 := Lib.hid (T2.out.below hb)
  have U3 := Lib.hid (U2.out.below hb)
  have B3 := Lib.hid (below_chain B2.out hb)
  have X3 := Lib.hid (X2.out.below hb)
  have Y3 := Lib.hid (Y2.out.below hb)
  clear hb T2 U2 B2 X2 Y2
  go_wp2_with fail
  refine (HK.out.may _ _ _ _ HSO.out X3.out.rowE).mono ?_
  rintro e w4 ⟨he, hb⟩
  have T4 := Lib.hid (T3.out.below hb)
  have U4 := Lib.hid (U3.out.below hb)
  have B4 := Lib.hid (below_chain B3.out hb)
  have X4 := Lib.hid (X3.out.below hb)
  have Y4 := Lib.hid (Y3.out.below hb)
  clear hb T3 U3 B3 X3 Y3
  rw [HMO.out] at he
  subst he
  clear X4 Y4
  go_wp2_with fail
  refine ((HK.out.betw _ _ _ _ _ _ _ HM0.out HM1.out (by omega) (by omega) T4.out U4.out).mono fun _ _ h => h.yes HB.out).mono ?_
  rintro e w10 ⟨Ac, cc, rfl, hp, hb⟩
  have C10 := Lib.hid hp
  clear hp
  have T10 := Lib.hid (T4.out.below hb)
  have U10 := Lib.hid (U4.out.below hb)
  have B10 := Lib.hid (below_chain B4.out hb)
  clear hb T4 U4 B4
  obtain ⟨lc, hlc⟩ : ∃ lc, lc = betweenP l0 l1 := ⟨_, rfl⟩
  rw [← hlc] at C10 ⊢
  have HLC := Lib.hid hlc
  clear hlc
  have hl120 := HLB.out
  rw [← HLC.out] at hl120
  have HCM := Lib.hid (show mayCP lc = true by rw [HLC.out]; exact HMB.out)
  have HSC := Lib.hid (smallC_of HCM.out (by omega))
  have HL120 := Lib.hid hl120
  clear hl120
  go_wp2_with fail
  refine ((HK.out.apply _ _ _ _ _ _ _ HM0.out HSC.out (by omega) (by have := HL120.out; omega) T10.out C10.out.chgE).mono fun _ _ h => h.yes (by rw [HCM.out, HP0.out]; rfl)).mono ?_
  rintro e w11 ⟨Ad, cd, rfl, hp, hb⟩
  have D11 := Lib.hid hp
  clear hp
  have T11 := Lib.hid (T10.out.below hb)
  have U11 := Lib.hid (U10.out.below hb)
  have B11 := Lib.hid (below_chain B10.out hb)
  have C11 := Lib.hid (C10.out.below hb)
  clear hb T10 U10 B10 C10
  rw [show applyP l0 lc = l1 by rw [HLC.out]; exact HAB.out] at D11
  rw [show applyP l0 lc = l1 by rw [HLC.out]; exact HAB.out]
  have hrs := Rows_any l1 l1 Ad A1 cd c1 _ _ w11 (by omega) (by omega) D11.out.rowE.at.2.1 U11.out.at.2.1
  rw [decide_eq_true rfl] at hrs
  go_wp2_with fail
  refine hrs.mono ?_
  clear hrs
  rintro e w12 ⟨rfl, hb⟩
  have T12 := Lib.hid (T11.out.below hb)
  have U12 := Lib.hid (U11.out.below hb)
  have B12 := Lib.hid (below_chain B11.out hb)
  have C12 := Lib.hid (C11.out.below hb)
  have D12 := Lib.hid (D11.out.below hb)
  clear hb T11 U11 B11 C11 D11
  clear D12
  obtain rfl : lc = [] := by rw [HLC.out]; exact HN.out
  have heq := Lib.hid (between_none HP0.out HP1.out HN.out)
  have hrs := Rows_any l0 l1 A0 A1 c0 c1 _ _ w12 (by omega) (by omega) T12.out.at.2.1 U12.out.at.2.1
  rw [decide_eq_true heq.out] at hrs
  go_wp2_with fail
  refine hrs.mono ?_
  clear hrs
  rintro e w13 ⟨rfl, hb⟩
  have T13 := Lib.hid (T12.out.below hb)
  have U13 := Lib.hid (U12.out.below hb)
  have B13 := Lib.hid (below_chain B12.out hb)
  have C13 := Lib.hid (C12.out.below hb)
  clear hb T12 U12 B12 C12
  go_wp2_with fail
  refine (lives7_any HK.out _).mono ?_
  rintro e w90 ⟨rfl, hb⟩
  have B90 := Lib.hid (below_chain B13.out hb)
  clear hb B13
  go_wp2_with fail
  go_ret
  exact ⟨rfl, B90.out⟩

end Go.Proofs.Ytiemphfikfigdaa
