/- BatchCarries: the walk. -/
import Derived.Test.YtiemphfikfigdaaBatSlice
namespace Go.Proofs.Ytiemphfikfigdaa
open Go.RowKit Go.Shelf
set_option linter.unusedVariables false
set_option maxRecDepth 100000
set_option linter.unusedSimpArgs false

set_option maxHeartbeats 8000000 in
theorem carries7_long (K : K7) (l0 : List Ch) (A0 : Option Addr) (c0 : Nat) (l1 : List UInt8) (A1 : Option Addr) (c1 : Nat) (x : Int) (w : World)
    (hs : ∀ z ∈ l0, z.1.length ≤ maxLen) (r0 : RdX chgE w (· < w.heap.size) A0 l0) (hc0 : l0.length ≤ c0) (hm0 : c0 ≤ maxLen) (n0 : A0 = none → l0 = [] ∧ c0 = 0)
    (r1 : Rd w A1 l1) (hc1 : l1.length ≤ c1) (hm1 : c1 ≤ maxLen) (n1 : A1 = none → l1 = [] ∧ c1 = 0) (hlong : 200 < l0.length ∨ 262144 < l1.length) :
    Calls Try.prog 5 #[.slice A0 l0.length c0, .slice A1 l1.length c1, .int .i64 x] w fun e w' => e = .returned (.bool true) ∧ Below w.heap.size w w' := by
  have HK := Lib.hid K
  have B0 := Lib.hid (Below.refl w.heap.size w)
  have L0 := Lib.hid (show LsV chgE w (· < w.heap.size) (.slice A0 l0.length c0) l0 from ⟨A0, c0, rfl, r0, hc0, hm0, n0⟩)
  have S0 := Lib.hid (show BsV w anyB (.slice A1 l1.length c1) l1 from ⟨A1, c1, rfl, r1.f fun _ _ _ _ => trivial, n1, hc1, hm1⟩)
  have HS := Lib.hid hs
  unfold maxLen at hm0 hm1
  have hm0' : (l0.length : Int) ≤ 9223372036854775807 := by omega
  have hm1' : (l1.length : Int) ≤ 9223372036854775807 := by omega
  clear K r0 r1 n0 n1 hs
  by_cases h0 : 200 < l0.length
  · have h0' : (200 : Int) < (l0.length : Int) := by omega
    go_enter Try.func5, Try.ntmps5
    go_wp2_with fail
    refine (lives7_any HK.out _).mono ?_
    rintro e w90 ⟨rfl, hb⟩
    have B90 := Lib.hid (below_chain B0.out hb)
    clear hb B0
    go_wp2_with fail
    go_ret
    exact ⟨rfl, B90.out⟩
  · have h0' : ¬ (200 : Int) < (l0.length : Int) := by omega
    have h1' : (262144 : Int) < (l1.length : Int) := by rcases hlong with h | h <;> omega
    go_enter Try.func5, Try.ntmps5
    go_wp2_with fail
    refine (lives7_any HK.out _).mono ?_
    rintro e w90 ⟨rfl, hb⟩
    have B90 := Lib.hid (below_chain B0.out hb)
    clear hb B0
    go_wp2_with fail
    go_ret
    exact ⟨rfl, B90.out⟩
set_option maxHeartbeats 8000000 in
theorem carries7_not_err (K : K7) (l0 : List Ch) (A0 : Option Addr) (c0 : Nat) (l1 : List UInt8) (A1 : Option Addr) (c1 : Nat) (x : Int) (w : World)
    (hs : ∀ z ∈ l0, z.1.length ≤ maxLen) (r0 : RdX chgE w (· < w.heap.size) A0 l0) (hc0 : l0.length ≤ c0) (hm0 : c0 ≤ maxLen) (n0 : A0 = none → l0 = [] ∧ c0 = 0)
    (r1 : Rd w A1 l1) (hc1 : l1.length ≤ c1) (hm1 : c1 ≤ maxLen) (n1 : A1 = none → l1 = [] ∧ c1 = 0) (h0 : ¬ 200 < l0.length) (h1 : ¬ 262144 < l1.length) (hm : mayCP l0 = false) (er : Int) (hgb : getC l1 = .error er) (herr : er ≠ 0) :
    Calls Try.prog 5 #[.slice A0 l0.length c0, .slice A1 l1.length c1, .int .i64 x] w fun e w' => e = .returned (.bool true) ∧ Below w.heap.size w w' := by
  have HK := Lib.hid K
  have B0 := Lib.hid (Below.refl w.heap.size w)
  have L0 := Lib.hid (show LsV chgE w (· < w.heap.size) (.slice A0 l0.length c0) l0 from ⟨A0, c0, rfl, r0, hc0, hm0, n0⟩)
  have S0 := Lib.hid (show BsV w anyB (.slice A1 l1.length c1) l1 from ⟨A1, c1, rfl, r1.f fun _ _ _ _ => trivial, n1, hc1, hm1⟩)
  have HS := Lib.hid hs
  unfold maxLen at hm0 hm1
  have hm0' : (l0.length : Int) ≤ 9223372036854775807 := by omega
  have hm1' : (l1.length : Int) ≤ 9223372036854775807 := by omega
  clear K r0 r1 n0 n1 hs
  have h0' : ¬ (200 : Int) < (l0.length : Int) := by omega
  have h1' : ¬ (262144 : Int) < (l1.length : Int) := by omega
  have HSM := Lib.hid (show SmallC l0 from ⟨by omega, fun z hz => by have := HS.out z hz; unfold maxLen at this; exact this⟩)
  have HM := Lib.hid hm
  clear hm
  go_enter Try.func5, Try.ntmps5
  go_wp2_with fail
  refine ((HK.out.put _ _ _ _ HSM.out (by omega) L0.out).mono fun _ _ h => h.no HM.out).mono ?_
  rintro e w1 ⟨A2, c2, rfl, hp, hb⟩
  have L1 := Lib.hid (L0.out.below hb)
  have S1 := Lib.hid (S0.out.below hb)
  have B1 := Lib.hid (below_chain B0.out hb)
  clear hp
  clear hb L0 S0 B0
  go_wp2_with fail
  refine (HK.out.mayC _ _ _ _ HSM.out L1.out).mono ?_
  rintro e w2 ⟨he, hb⟩
  have L2 := Lib.hid (L1.out.below hb)
  have S2 := Lib.hid (S1.out.below hb)
  have B2 := Lib.hid (below_chain B1.out hb)
  clear hb L1 S1 B1
  rw [HM.out] at he
  subst he
  go_wp2_with fail
  refine ((HK.out.get _ _ _ _ (by omega) S2.out).mono fun _ _ h => h.err hgb).mono ?_
  rintro e w20 ⟨A20, c20, rfl, hp, hb⟩
  have L20 := Lib.hid (L2.out.below hb)
  have S20 := Lib.hid (S2.out.below hb)
  have B20 := Lib.hid (below_chain B2.out hb)
  clear hp
  clear hb L2 S2 B2
  have hne : (er == 0) = false := by simpa using herr
  have hne' : (er != 0) = true := by simpa using herr
  clear herr
  go_wp2_with fail
  refine (lives7_any HK.out _).mono ?_
  rintro e w90 ⟨rfl, hb⟩
  have B90 := Lib.hid (below_chain B20.out hb)
  clear hb B20
  go_wp2_with fail
  go_ret
  exact ⟨rfl, B90.out⟩
set_option maxHeartbeats 8000000 in
theorem carries7_not_has (K : K7) (l0 : List Ch) (A0 : Option Addr) (c0 : Nat) (l1 : List UInt8) (A1 : Option Addr) (c1 : Nat) (x : Int) (w : World)
    (hs : ∀ z ∈ l0, z.1.length ≤ maxLen) (r0 : RdX chgE w (· < w.heap.size) A0 l0) (hc0 : l0.length ≤ c0) (hm0 : c0 ≤ maxLen) (n0 : A0 = none → l0 = [] ∧ c0 = 0)
    (r1 : Rd w A1 l1) (hc1 : l1.length ≤ c1) (hm1 : c1 ≤ maxLen) (n1 : A1 = none → l1 = [] ∧ c1 = 0) (h0 : ¬ 200 < l0.length) (h1 : ¬ 262144 < l1.length) (hm : mayCP l0 = false) (m : List Ch) (hgb : getC l1 = .ok m) :
    Calls Try.prog 5 #[.slice A0 l0.length c0, .slice A1 l1.length c1, .int .i64 x] w fun e w' => e = .returned (.bool true) ∧ Below w.heap.size w w' := by
  have HK := Lib.hid K
  have B0 := Lib.hid (Below.refl w.heap.size w)
  have L0 := Lib.hid (show LsV chgE w (· < w.heap.size) (.slice A0 l0.length c0) l0 from ⟨A0, c0, rfl, r0, hc0, hm0, n0⟩)
  have S0 := Lib.hid (show BsV w anyB (.slice A1 l1.length c1) l1 from ⟨A1, c1, rfl, r1.f fun _ _ _ _ => trivial, n1, hc1, hm1⟩)
  have HS := Lib.hid hs
  unfold maxLen at hm0 hm1
  have hm0' : (l0.length : Int) ≤ 9223372036854775807 := by omega
  have hm1' : (l1.length : Int) ≤ 9223372036854775807 := by omega
  clear K r0 r1 n0 n1 hs
  have h0' : ¬ (200 : Int) < (l0.length : Int) := by omega
  have h1' : ¬ (262144 : Int) < (l1.length : Int) := by omega
  have HSM := Lib.hid (show SmallC l0 from ⟨by omega, fun z hz => by have := HS.out z hz; unfold maxLen at this; exact this⟩)
  obtain ⟨hmb, hpb⟩ := get_back hgb
  have hf4 := put_four m []
  rw [hpb] at hf4
  have HSB := Lib.hid (show SmallC m from ⟨by omega, fun z hz => by have := mayC_small hmb z hz; omega⟩)
  have HF4 := Lib.hid hf4
  have HGB := Lib.hid hgb
  have HMB := Lib.hid hmb
  have HPB := Lib.hid hpb
  clear hf4 hgb hmb hpb
  have HM := Lib.hid hm
  clear hm
  go_enter Try.func5, Try.ntmps5
  go_wp2_with fail
  refine ((HK.out.put _ _ _ _ HSM.out (by omega) L0.out).mono fun _ _ h => h.no HM.out).mono ?_
  rintro e w1 ⟨A2, c2, rfl, hp, hb⟩
  have L1 := Lib.hid (L0.out.below hb)
  have S1 := Lib.hid (S0.out.below hb)
  have B1 := Lib.hid (below_chain B0.out hb)
  clear hp
  clear hb L0 S0 B0
  go_wp2_with fail
  refine (HK.out.mayC _ _ _ _ HSM.out L1.out).mono ?_
  rintro e w2 ⟨he, hb⟩
  have L2 := Lib.hid (L1.out.below hb)
  have S2 := Lib.hid (S1.out.below hb)
  have B2 := Lib.hid (below_chain B1.out hb)
  clear hb L1 S1 B1
  rw [HM.out] at he
  subst he
  go_wp2_with fail
  refine ((HK.out.get _ _ _ _ (by omega) S2.out).mono fun _ _ h => h.has HGB.out).mono ?_
  rintro e w20 ⟨A20, c20, rfl, hp, hb⟩
  have M20 := Lib.hid hp
  clear hp
  have L20 := Lib.hid (L2.out.below hb)
  have S20 := Lib.hid (S2.out.below hb)
  have B20 := Lib.hid (below_chain B2.out hb)
  clear hb L2 S2 B2
  go_wp2_with fail
  refine ((HK.out.put _ _ _ _ HSB.out (by have := HF4.out; omega) M20.out).mono fun _ _ h => h.yes HMB.out).mono ?_
  rintro e w21 ⟨A21, c21, rfl, hp, hb⟩
  have Y21 := Lib.hid hp
  clear hp
  have L21 := Lib.hid (L20.out.below hb)
  have S21 := Lib.hid (S20.out.below hb)
  have B21 := Lib.hid (below_chain B20.out hb)
  have M21 := Lib.hid (M20.out.below hb)
  clear hb L20 S20 B20 M20
  rw [HPB.out] at Y21 ⊢
  have hsm := Same_any A21 A1 l1 l1 c21 c1 w21 Y21.out.at.2.1 S21.out.at.2.1
  rw [show (l1 == l1) = true by simp] at hsm
  clear Y21
  go_wp2_with fail
  refine hsm.mono ?_
  clear hsm
  rintro e _ ⟨rfl, rfl⟩
  go_wp2_with fail
  refine (HK.out.mayC _ _ _ _ HSB.out M21.out).mono ?_
  rintro e w22 ⟨he, hb⟩
  have L22 := Lib.hid (L21.out.below hb)
  have S22 := Lib.hid (S21.out.below hb)
  have B22 := Lib.hid (below_chain B21.out hb)
  have M22 := Lib.hid (M21.out.below hb)
  clear hb L21 S21 B21 M21
  rw [HMB.out] at he
  subst he
  go_wp2_with fail
  refine (lives7_any HK.out _).mono ?_
  rintro e w90 ⟨rfl, hb⟩
  have B90 := Lib.hid (below_chain B22.out hb)
  clear hb B22
  go_wp2_with fail
  go_ret
  exact ⟨rfl, B90.out⟩
set_option maxHeartbeats 8000000 in
theorem carries7_low_err (K : K7) (l0 : List Ch) (A0 : Option Addr) (c0 : Nat) (l1 : List UInt8) (A1 : Option Addr) (c1 : Nat) (x : Int) (w : World)
    (hs : ∀ z ∈ l0, z.1.length ≤ maxLen) (r0 : RdX chgE w (· < w.heap.size) A0 l0) (hc0 : l0.length ≤ c0) (hm0 : c0 ≤ maxLen) (n0 : A0 = none → l0 = [] ∧ c0 = 0)
    (r1 : Rd w A1 l1) (hc1 : l1.length ≤ c1) (hm1 : c1 ≤ maxLen) (n1 : A1 = none → l1 = [] ∧ c1 = 0) (h0 : ¬ 200 < l0.length) (h1 : ¬ 262144 < l1.length) (hm : mayCP l0 = true) (hx : ¬ 0 ≤ x) (er : Int) (hgb : getC l1 = .error er) (herr : er ≠ 0) :
    Calls Try.prog 5 #[.slice A0 l0.length c0, .slice A1 l1.length c1, .int .i64 x] w fun e w' => e = .returned (.bool true) ∧ Below w.heap.size w w' := by
  have HK := Lib.hid K
  have B0 := Lib.hid (Below.refl w.heap.size w)
  have L0 := Lib.hid (show LsV chgE w (· < w.heap.size) (.slice A0 l0.length c0) l0 from ⟨A0, c0, rfl, r0, hc0, hm0, n0⟩)
  have S0 := Lib.hid (show BsV w anyB (.slice A1 l1.length c1) l1 from ⟨A1, c1, rfl, r1.f fun _ _ _ _ => trivial, n1, hc1, hm1⟩)
  have HS := Lib.hid hs
  unfold maxLen at hm0 hm1
  have hm0' : (l0.length : Int) ≤ 9223372036854775807 := by omega
  have hm1' : (l1.length : Int) ≤ 9223372036854775807 := by omega
  clear K r0 r1 n0 n1 hs
  have h0' : ¬ (200 : Int) < (l0.length : Int) := by omega
  have h1' : ¬ (262144 : Int) < (l1.length : Int) := by omega
  have HSM := Lib.hid (show SmallC l0 from ⟨by omega, fun z hz => by have := HS.out z hz; unfold maxLen at this; exact this⟩)
  have HPM := Lib.hid (put_most l0 [] hm)
  have HM := Lib.hid hm
  clear hm
  go_enter Try.func5, Try.ntmps5
  go_wp2_with fail
  refine ((HK.out.put _ _ _ _ HSM.out (by omega) L0.out).mono fun _ _ h => h.yes HM.out).mono ?_
  rintro e w1 ⟨A2, c2, rfl, hp, hb⟩
  have X1 := Lib.hid hp
  clear hp
  have L1 := Lib.hid (L0.out.below hb)
  have S1 := Lib.hid (S0.out.below hb)
  have B1 := Lib.hid (below_chain B0.out hb)
  clear hb L0 S0 B0
  have hlx := X1.out.at.2.2.1
  have hcx := X1.out.at.2.2.2.1
  unfold maxLen at hcx
  have HLX := Lib.hid hlx
  clear hlx
  go_wp2_with fail
  refine (HK.out.mayC _ _ _ _ HSM.out L1.out).mono ?_
  rintro e w2 ⟨he, hb⟩
  have L2 := Lib.hid (L1.out.below hb)
  have S2 := Lib.hid (S1.out.below hb)
  have B2 := Lib.hid (below_chain B1.out hb)
  have X2 := Lib.hid (X1.out.below hb)
  clear hb L1 S1 B1 X1
  rw [HM.out] at he
  subst he
  go_wp2_with fail
  refine ((HK.out.get _ _ _ _ (by have := HPM.out; omega) X2.out).mono fun _ _ h => h.has (get_put HM.out)).mono ?_
  rintro e w3 ⟨A3, c3, rfl, hp, hb⟩
  have M3 := Lib.hid hp
  clear hp
  have L3 := Lib.hid (L2.out.below hb)
  have S3 := Lib.hid (S2.out.below hb)
  have B3 := Lib.hid (below_chain B2.out hb)
  have X3 := Lib.hid (X2.out.below hb)
  clear hb L2 S2 B2 X2
  have hch := Changes_any l0 l0 A3 A0 c3 c0 _ _ w3 (by omega) (by omega) M3.out.at.2.1 L3.out.at.2.1
  rw [decide_eq_true rfl] at hch
  clear M3
  go_wp2_with fail
  refine hch.mono ?_
  clear hch
  rintro e w4 ⟨rfl, hb⟩
  have L4 := Lib.hid (L3.out.below hb)
  have S4 := Lib.hid (S3.out.below hb)
  have B4 := Lib.hid (below_chain B3.out hb)
  have X4 := Lib.hid (X3.out.below hb)
  clear hb L3 S3 B3 X3
  go_wp2_with fail
  refine ((HK.out.get _ _ _ _ (by omega) S4.out).mono fun _ _ h => h.err hgb).mono ?_
  rintro e w20 ⟨A20, c20, rfl, hp, hb⟩
  have L20 := Lib.hid (L4.out.below hb)
  have S20 := Lib.hid (S4.out.below hb)
  have B20 := Lib.hid (below_chain B4.out hb)
  have X20 := Lib.hid (X4.out.below hb)
  clear hp
  clear hb L4 S4 B4 X4
  have hne : (er == 0) = false := by simpa using herr
  have hne' : (er != 0) = true := by simpa using herr
  clear herr
  go_wp2_with fail
  refine (lives7_any HK.out _).mono ?_
  rintro e w90 ⟨rfl, hb⟩
  have B90 := Lib.hid (below_chain B20.out hb)
  clear hb B20
  go_wp2_with fail
  go_ret
  exact ⟨rfl, B90.out⟩
set_option maxHeartbeats 8000000 in
theorem carries7_low_has (K : K7) (l0 : List Ch) (A0 : Option Addr) (c0 : Nat) (l1 : List UInt8) (A1 : Option Addr) (c1 : Nat) (x : Int) (w : World)
    (hs : ∀ z ∈ l0, z.1.length ≤ maxLen) (r0 : RdX chgE w (· < w.heap.size) A0 l0) (hc0 : l0.length ≤ c0) (hm0 : c0 ≤ maxLen) (n0 : A0 = none → l0 = [] ∧ c0 = 0)
    (r1 : Rd w A1 l1) (hc1 : l1.length ≤ c1) (hm1 : c1 ≤ maxLen) (n1 : A1 = none → l1 = [] ∧ c1 = 0) (h0 : ¬ 200 < l0.length) (h1 : ¬ 262144 < l1.length) (hm : mayCP l0 = true) (hx : ¬ 0 ≤ x) (m : List Ch) (hgb : getC l1 = .ok m) :
    Calls Try.prog 5 #[.slice A0 l0.length c0, .slice A1 l1.length c1, .int .i64 x] w fun e w' => e = .returned (.bool true) ∧ Below w.heap.size w w' := by
  have HK := Lib.hid K
  have B0 := Lib.hid (Below.refl w.heap.size w)
  have L0 := Lib.hid (show LsV chgE w (· < w.heap.size) (.slice A0 l0.length c0) l0 from ⟨A0, c0, rfl, r0, hc0, hm0, n0⟩)
  have S0 := Lib.hid (show BsV w anyB (.slice A1 l1.length c1) l1 from ⟨A1, c1, rfl, r1.f fun _ _ _ _ => trivial, n1, hc1, hm1⟩)
  have HS := Lib.hid hs
  unfold maxLen at hm0 hm1
  have hm0' : (l0.length : Int) ≤ 9223372036854775807 := by omega
  have hm1' : (l1.length : Int) ≤ 9223372036854775807 := by omega
  clear K r0 r1 n0 n1 hs
  have h0' : ¬ (200 : Int) < (l0.length : Int) := by omega
  have h1' : ¬ (262144 : Int) < (l1.length : Int) := by omega
  have HSM := Lib.hid (show SmallC l0 from ⟨by omega, fun z hz => by have := HS.out z hz; unfold maxLen at this; exact this⟩)
  have HPM := Lib.hid (put_most l0 [] hm)
  obtain ⟨hmb, hpb⟩ := get_back hgb
  have hf4 := put_four m []
  rw [hpb] at hf4
  have HSB := Lib.hid (show SmallC m from ⟨by omega, fun z hz => by have := mayC_small hmb z hz; omega⟩)
  have HF4 := Lib.hid hf4
  have HGB := Lib.hid hgb
  have HMB := Lib.hid hmb
  have HPB := Lib.hid hpb
  clear hf4 hgb hmb hpb
  have HM := Lib.hid hm
  clear hm
  go_enter Try.func5, Try.ntmps5
  go_wp2_with fail
  refine ((HK.out.put _ _ _ _ HSM.out (by omega) L0.out).mono fun _ _ h => h.yes HM.out).mono ?_
  rintro e w1 ⟨A2, c2, rfl, hp, hb⟩
  have X1 := Lib.hid hp
  clear hp
  have L1 := Lib.hid (L0.out.below hb)
  have S1 := Lib.hid (S0.out.below hb)
  have B1 := Lib.hid (below_chain B0.out hb)
  clear hb L0 S0 B0
  have hlx := X1.out.at.2.2.1
  have hcx := X1.out.at.2.2.2.1
  unfold maxLen at hcx
  have HLX := Lib.hid hlx
  clear hlx
  go_wp2_with fail
  refine (HK.out.mayC _ _ _ _ HSM.out L1.out).mono ?_
  rintro e w2 ⟨he, hb⟩
  have L2 := Lib.hid (L1.out.below hb)
  have S2 := Lib.hid (S1.out.below hb)
  have B2 := Lib.hid (below_chain B1.out hb)
  have X2 := Lib.hid (X1.out.below hb)
  clear hb L1 S1 B1 X1
  rw [HM.out] at he
  subst he
  go_wp2_with fail
  refine ((HK.out.get _ _ _ _ (by have := HPM.out; omega) X2.out).mono fun _ _ h => h.has (get_put HM.out)).mono ?_
  rintro e w3 ⟨A3, c3, rfl, hp, hb⟩
  have M3 := Lib.hid hp
  clear hp
  have L3 := Lib.hid (L2.out.below hb)
  have S3 := Lib.hid (S2.out.below hb)
  have B3 := Lib.hid (below_chain B2.out hb)
  have X3 := Lib.hid (X2.out.below hb)
  clear hb L2 S2 B2 X2
  have hch := Changes_any l0 l0 A3 A0 c3 c0 _ _ w3 (by omega) (by omega) M3.out.at.2.1 L3.out.at.2.1
  rw [decide_eq_true rfl] at hch
  clear M3
  go_wp2_with fail
  refine hch.mono ?_
  clear hch
  rintro e w4 ⟨rfl, hb⟩
  have L4 := Lib.hid (L3.out.below hb)
  have S4 := Lib.hid (S3.out.below hb)
  have B4 := Lib.hid (below_chain B3.out hb)
  have X4 := Lib.hid (X3.out.below hb)
  clear hb L3 S3 B3 X3
  go_wp2_with fail
  refine ((HK.out.get _ _ _ _ (by omega) S4.out).mono fun _ _ h => h.has HGB.out).mono ?_
  rintro e w20 ⟨A20, c20, rfl, hp, hb⟩
  have M20 := Lib.hid hp
  clear hp
  have L20 := Lib.hid (L4.out.below hb)
  have S20 := Lib.hid (S4.out.below hb)
  have B20 := Lib.hid (below_chain B4.out hb)
  have X20 := Lib.hid (X4.out.below hb)
  clear hb L4 S4 B4 X4
  go_wp2_with fail
  refine ((HK.out.put _ _ _ _ HSB.out (by have := HF4.out; omega) M20.out).mono fun _ _ h => h.yes HMB.out).mono ?_
  rintro e w21 ⟨A21, c21, rfl, hp, hb⟩
  have Y21 := Lib.hid hp
  clear hp
  have L21 := Lib.hid (L20.out.below hb)
  have S21 := Lib.hid (S20.out.below hb)
  have B21 := Lib.hid (below_chain B20.out hb)
  have X21 := Lib.hid (X20.out.below hb)
  have M21 := Lib.hid (M20.out.below hb)
  clear hb L20 S20 B20 X20 M20
  rw [HPB.out] at Y21 ⊢
  have hsm := Same_any A21 A1 l1 l1 c21 c1 w21 Y21.out.at.2.1 S21.out.at.2.1
  rw [show (l1 == l1) = true by simp] at hsm
  clear Y21
  go_wp2_with fail
  refine hsm.mono ?_
  clear hsm
  rintro e _ ⟨rfl, rfl⟩
  go_wp2_with fail
  refine (HK.out.mayC _ _ _ _ HSB.out M21.out).mono ?_
  rintro e w22 ⟨he, hb⟩
  have L22 := Lib.hid (L21.out.below hb)
  have S22 := Lib.hid (S21.out.below hb)
  have B22 := Lib.hid (below_chain B21.out hb)
  have X22 := Lib.hid (X21.out.below hb)
  have M22 := Lib.hid (M21.out.below hb)
  clear hb L21 S21 B21 X21 M21
  rw [HMB.out] at he
  subst he
  go_wp2_with fail
  refine (lives7_any HK.out _).mono ?_
  rintro e w90 ⟨rfl, hb⟩
  have B90 := Lib.hid (below_chain B22.out hb)
  clear hb B22
  go_wp2_with fail
  go_ret
  exact ⟨rfl, B90.out⟩
set_option maxHeartbeats 8000000 in
theorem carries7_high_err (K : K7) (l0 : List Ch) (A0 : Option Addr) (c0 : Nat) (l1 : List UInt8) (A1 : Option Addr) (c1 : Nat) (x : Int) (w : World)
    (hs : ∀ z ∈ l0, z.1.length ≤ maxLen) (r0 : RdX chgE w (· < w.heap.size) A0 l0) (hc0 : l0.length ≤ c0) (hm0 : c0 ≤ maxLen) (n0 : A0 = none → l0 = [] ∧ c0 = 0)
    (r1 : Rd w A1 l1) (hc1 : l1.length ≤ c1) (hm1 : c1 ≤ maxLen) (n1 : A1 = none → l1 = [] ∧ c1 = 0) (h0 : ¬ 200 < l0.length) (h1 : ¬ 262144 < l1.length) (hm : mayCP l0 = true) (hx : 0 ≤ x) (hx2 : ¬ x < ((putFrom [] l0).length : Int)) (er : Int) (hgb : getC l1 = .error er) (herr : er ≠ 0) :
    Calls Try.prog 5 #[.slice A0 l0.length c0, .slice A1 l1.length c1, .int .i64 x] w fun e w' => e = .returned (.bool true) ∧ Below w.heap.size w w' := by
  have HK := Lib.hid K
  have B0 := Lib.hid (Below.refl w.heap.size w)
  have L0 := Lib.hid (show LsV chgE w (· < w.heap.size) (.slice A0 l0.length c0) l0 from ⟨A0, c0, rfl, r0, hc0, hm0, n0⟩)
  have S0 := Lib.hid (show BsV w anyB (.slice A1 l1.length c1) l1 from ⟨A1, c1, rfl, r1.f fun _ _ _ _ => trivial, n1, hc1, hm1⟩)
  have HS := Lib.hid hs
  unfold maxLen at hm0 hm1
  have hm0' : (l0.length : Int) ≤ 9223372036854775807 := by omega
  have hm1' : (l1.length : Int) ≤ 9223372036854775807 := by omega
  clear K r0 r1 n0 n1 hs
  have h0' : ¬ (200 : Int) < (l0.length : Int) := by omega
  have h1' : ¬ (262144 : Int) < (l1.length : Int) := by omega
  have HSM := Lib.hid (show SmallC l0 from ⟨by omega, fun z hz => by have := HS.out z hz; unfold maxLen at this; exact this⟩)
  have HPM := Lib.hid (put_most l0 [] hm)
  have HM := Lib.hid hm
  clear hm
  go_enter Try.func5, Try.ntmps5
  go_wp2_with fail
  refine ((HK.out.put _ _ _ _ HSM.out (by omega) L0.out).mono fun _ _ h => h.yes HM.out).mono ?_
  rintro e w1 ⟨A2, c2, rfl, hp, hb⟩
  have X1 := Lib.hid hp
  clear hp
  have L1 := Lib.hid (L0.out.below hb)
  have S1 := Lib.hid (S0.out.below hb)
  have B1 := Lib.hid (below_chain B0.out hb)
  clear hb L0 S0 B0
  have hlx := X1.out.at.2.2.1
  have hcx := X1.out.at.2.2.2.1
  unfold maxLen at hcx
  have HLX := Lib.hid hlx
  clear hlx
  go_wp2_with fail
  refine (HK.out.mayC _ _ _ _ HSM.out L1.out).mono ?_
  rintro e w2 ⟨he, hb⟩
  have L2 := Lib.hid (L1.out.below hb)
  have S2 := Lib.hid (S1.out.below hb)
  have B2 := Lib.hid (below_chain B1.out hb)
  have X2 := Lib.hid (X1.out.below hb)
  clear hb L1 S1 B1 X1
  rw [HM.out] at he
  subst he
  go_wp2_with fail
  refine ((HK.out.get _ _ _ _ (by have := HPM.out; omega) X2.out).mono fun _ _ h => h.has (get_put HM.out)).mono ?_
  rintro e w3 ⟨A3, c3, rfl, hp, hb⟩
  have M3 := Lib.hid hp
  clear hp
  have L3 := Lib.hid (L2.out.below hb)
  have S3 := Lib.hid (S2.out.below hb)
  have B3 := Lib.hid (below_chain B2.out hb)
  have X3 := Lib.hid (X2.out.below hb)
  clear hb L2 S2 B2 X2
  have hch := Changes_any l0 l0 A3 A0 c3 c0 _ _ w3 (by omega) (by omega) M3.out.at.2.1 L3.out.at.2.1
  rw [decide_eq_true rfl] at hch
  clear M3
  go_wp2_with fail
  refine hch.mono ?_
  clear hch
  rintro e w4 ⟨rfl, hb⟩
  have L4 := Lib.hid (L3.out.below hb)
  have S4 := Lib.hid (S3.out.below hb)
  have B4 := Lib.hid (below_chain B3.out hb)
  have X4 := Lib.hid (X3.out.below hb)
  clear hb L3 S3 B3 X3
  go_wp2_with fail
  refine ((HK.out.get _ _ _ _ (by omega) S4.out).mono fun _ _ h => h.err hgb).mono ?_
  rintro e w20 ⟨A20, c20, rfl, hp, hb⟩
  have L20 := Lib.hid (L4.out.below hb)
  have S20 := Lib.hid (S4.out.below hb)
  have B20 := Lib.hid (below_chain B4.out hb)
  have X20 := Lib.hid (X4.out.below hb)
  clear hp
  clear hb L4 S4 B4 X4
  have hne : (er == 0) = false := by simpa using herr
  have hne' : (er != 0) = true := by simpa using herr
  clear herr
  go_wp2_with fail
  refine (lives7_any HK.out _).mono ?_
  rintro e w90 ⟨rfl, hb⟩
  have B90 := Lib.hid (below_chain B20.out hb)
  clear hb B20
  go_wp2_with fail
  go_ret
  exact ⟨rfl, B90.out⟩
set_option maxHeartbeats 8000000 in
theorem carries7_high_has (K : K7) (l0 : List Ch) (A0 : Option Addr) (c0 : Nat) (l1 : List UInt8) (A1 : Option Addr) (c1 : Nat) (x : Int) (w : World)
    (hs : ∀ z ∈ l0, z.1.length ≤ maxLen) (r0 : RdX chgE w (· < w.heap.size) A0 l0) (hc0 : l0.length ≤ c0) (hm0 : c0 ≤ maxLen) (n0 : A0 = none → l0 = [] ∧ c0 = 0)
    (r1 : Rd w A1 l1) (hc1 : l1.length ≤ c1) (hm1 : c1 ≤ maxLen) (n1 : A1 = none → l1 = [] ∧ c1 = 0) (h0 : ¬ 200 < l0.length) (h1 : ¬ 262144 < l1.length) (hm : mayCP l0 = true) (hx : 0 ≤ x) (hx2 : ¬ x < ((putFrom [] l0).length : Int)) (m : List Ch) (hgb : getC l1 = .ok m) :
    Calls Try.prog 5 #[.slice A0 l0.length c0, .slice A1 l1.length c1, .int .i64 x] w fun e w' => e = .returned (.bool true) ∧ Below w.heap.size w w' := by
  have HK := Lib.hid K
  have B0 := Lib.hid (Below.refl w.heap.size w)
  have L0 := Lib.hid (show LsV chgE w (· < w.heap.size) (.slice A0 l0.length c0) l0 from ⟨A0, c0, rfl, r0, hc0, hm0, n0⟩)
  have S0 := Lib.hid (show BsV w anyB (.slice A1 l1.length c1) l1 from ⟨A1, c1, rfl, r1.f fun _ _ _ _ => trivial, n1, hc1, hm1⟩)
  have HS := Lib.hid hs
  unfold maxLen at hm0 hm1
  have hm0' : (l0.length : Int) ≤ 9223372036854775807 := by omega
  have hm1' : (l1.length : Int) ≤ 9223372036854775807 := by omega
  clear K r0 r1 n0 n1 hs
  have h0' : ¬ (200 : Int) < (l0.length : Int) := by omega
  have h1' : ¬ (262144 : Int) < (l1.length : Int) := by omega
  have HSM := Lib.hid (show SmallC l0 from ⟨by omega, fun z hz => by have := HS.out z hz; unfold maxLen at this; exact this⟩)
  have HPM := Lib.hid (put_most l0 [] hm)
  obtain ⟨hmb, hpb⟩ := get_back hgb
  have hf4 := put_four m []
  rw [hpb] at hf4
  have HSB := Lib.hid (show SmallC m from ⟨by omega, fun z hz => by have := mayC_small hmb z hz; omega⟩)
  have HF4 := Lib.hid hf4
  have HGB := Lib.hid hgb
  have HMB := Lib.hid hmb
  have HPB := Lib.hid hpb
  clear hf4 hgb hmb hpb
  have HM := Lib.hid hm
  clear hm
  go_enter Try.func5, Try.ntmps5
  go_wp2_with fail
  refine ((HK.out.put _ _ _ _ HSM.out (by omega) L0.out).mono fun _ _ h => h.yes HM.out).mono ?_
  rintro e w1 ⟨A2, c2, rfl, hp, hb⟩
  have X1 := Lib.hid hp
  clear hp
  have L1 := Lib.hid (L0.out.below hb)
  have S1 := Lib.hid (S0.out.below hb)
  have B1 := Lib.hid (below_chain B0.out hb)
  clear hb L0 S0 B0
  have hlx := X1.out.at.2.2.1
  have hcx := X1.out.at.2.2.2.1
  unfold maxLen at hcx
  have HLX := Lib.hid hlx
  clear hlx
  go_wp2_with fail
  refine (HK.out.mayC _ _ _ _ HSM.out L1.out).mono ?_
  rintro e w2 ⟨he, hb⟩
  have L2 := Lib.hid (L1.out.below hb)
  have S2 := Lib.hid (S1.out.below hb)
  have B2 := Lib.hid (below_chain B1.out hb)
  have X2 := Lib.hid (X1.out.below hb)
  clear hb L1 S1 B1 X1
  rw [HM.out] at he
  subst he
  go_wp2_with fail
  refine ((HK.out.get _ _ _ _ (by have := HPM.out; omega) X2.out).mono fun _ _ h => h.has (get_put HM.out)).mono ?_
  rintro e w3 ⟨A3, c3, rfl, hp, hb⟩
  have M3 := Lib.hid hp
  clear hp
  have L3 := Lib.hid (L2.out.below hb)
  have S3 := Lib.hid (S2.out.below hb)
  have B3 := Lib.hid (below_chain B2.out hb)
  have X3 := Lib.hid (X2.out.below hb)
  clear hb L2 S2 B2 X2
  have hch := Changes_any l0 l0 A3 A0 c3 c0 _ _ w3 (by omega) (by omega) M3.out.at.2.1 L3.out.at.2.1
  rw [decide_eq_true rfl] at hch
  clear M3
  go_wp2_with fail
  refine hch.mono ?_
  clear hch
  rintro e w4 ⟨rfl, hb⟩
  have L4 := Lib.hid (L3.out.below hb)
  have S4 := Lib.hid (S3.out.below hb)
  have B4 := Lib.hid (below_chain B3.out hb)
  have X4 := Lib.hid (X3.out.below hb)
  clear hb L3 S3 B3 X3
  go_wp2_with fail
  refine ((HK.out.get _ _ _ _ (by omega) S4.out).mono fun _ _ h => h.has HGB.out).mono ?_
  rintro e w20 ⟨A20, c20, rfl, hp, hb⟩
  have M20 := Lib.hid hp
  clear hp
  have L20 := Lib.hid (L4.out.below hb)
  have S20 := Lib.hid (S4.out.below hb)
  have B20 := Lib.hid (below_chain B4.out hb)
  have X20 := Lib.hid (X4.out.below hb)
  clear hb L4 S4 B4 X4
  go_wp2_with fail
  refine ((HK.out.put _ _ _ _ HSB.out (by have := HF4.out; omega) M20.out).mono fun _ _ h => h.yes HMB.out).mono ?_
  rintro e w21 ⟨A21, c21, rfl, hp, hb⟩
  have Y21 := Lib.hid hp
  clear hp
  have L21 := Lib.hid (L20.out.below hb)
  have S21 := Lib.hid (S20.out.below hb)
  have B21 := Lib.hid (below_chain B20.out hb)
  have X21 := Lib.hid (X20.out.below hb)
  have M21 := Lib.hid (M20.out.below hb)
  clear hb L20 S20 B20 X20 M20
  rw [HPB.out] at Y21 ⊢
  have hsm := Same_any A21 A1 l1 l1 c21 c1 w21 Y21.out.at.2.1 S21.out.at.2.1
  rw [show (l1 == l1) = true by simp] at hsm
  clear Y21
  go_wp2_with fail
  refine hsm.mono ?_
  clear hsm
  rintro e _ ⟨rfl, rfl⟩
  go_wp2_with fail
  refine (HK.out.mayC _ _ _ _ HSB.out M21.out).mono ?_
  rintro e w22 ⟨he, hb⟩
  have L22 := Lib.hid (L21.out.below hb)
  have S22 := Lib.hid (S21.out.below hb)
  have B22 := Lib.hid (below_chain B21.out hb)
  have X22 := Lib.hid (X21.out.below hb)
  have M22 := Lib.hid (M21.out.below hb)
  clear hb L21 S21 B21 X21 M21
  rw [HMB.out] at he
  subst he
  go_wp2_with fail
  refine (lives7_any HK.out _).mono ?_
  rintro e w90 ⟨rfl, hb⟩
  have B90 := Lib.hid (below_chain B22.out hb)
  clear hb B22
  go_wp2_with fail
  go_ret
  exact ⟨rfl, B90.out⟩
set_option maxHeartbeats 8000000 in
theorem carries7_cut4_err (K : K7) (l0 : List Ch) (A0 : Option Addr) (c0 : Nat) (l1 : List UInt8) (A1 : Option Addr) (c1 : Nat) (x : Int) (w : World)
    (hs : ∀ z ∈ l0, z.1.length ≤ maxLen) (r0 : RdX chgE w (· < w.heap.size) A0 l0) (hc0 : l0.length ≤ c0) (hm0 : c0 ≤ maxLen) (n0 : A0 = none → l0 = [] ∧ c0 = 0)
    (r1 : Rd w A1 l1) (hc1 : l1.length ≤ c1) (hm1 : c1 ≤ maxLen) (n1 : A1 = none → l1 = [] ∧ c1 = 0) (h0 : ¬ 200 < l0.length) (h1 : ¬ 262144 < l1.length) (hm : mayCP l0 = true) (k : Nat) (hx : x = (k : Int)) (hk : k < (putFrom [] l0).length) (hg : getC ((putFrom [] l0).take k) = .error 4) (er : Int) (hgb : getC l1 = .error er) (herr : er ≠ 0) :
    Calls Try.prog 5 #[.slice A0 l0.length c0, .slice A1 l1.length c1, .int .i64 x] w fun e w' => e = .returned (.bool true) ∧ Below w.heap.size w w' := by
  have HK := Lib.hid K
  have B0 := Lib.hid (Below.refl w.heap.size w)
  have L0 := Lib.hid (show LsV chgE w (· < w.heap.size) (.slice A0 l0.length c0) l0 from ⟨A0, c0, rfl, r0, hc0, hm0, n0⟩)
  have S0 := Lib.hid (show BsV w anyB (.slice A1 l1.length c1) l1 from ⟨A1, c1, rfl, r1.f fun _ _ _ _ => trivial, n1, hc1, hm1⟩)
  have HS := Lib.hid hs
  unfold maxLen at hm0 hm1
  have hm0' : (l0.length : Int) ≤ 9223372036854775807 := by omega
  have hm1' : (l1.length : Int) ≤ 9223372036854775807 := by omega
  clear K r0 r1 n0 n1 hs
  have h0' : ¬ (200 : Int) < (l0.length : Int) := by omega
  have h1' : ¬ (262144 : Int) < (l1.length : Int) := by omega
  have HSM := Lib.hid (show SmallC l0 from ⟨by omega, fun z hz => by have := HS.out z hz; unfold maxLen at this; exact this⟩)
  have HPM := Lib.hid (put_most l0 [] hm)
  subst hx
  have hp0 := put_some (l := l0) (by omega)
  have hk0 : (0 : Int) ≤ (k : Int) := by omega
  have hk1 : (k : Int) < ((putFrom [] l0).length : Int) := by omega
  have HKK := Lib.hid hk
  have HG := Lib.hid hg
  clear hk hg
  have hp1 := hp0
  clear hp0
  have hl0 : ¬ l0 = [] := by rintro rfl; simp at hp1
  clear hp1
  have HM := Lib.hid hm
  clear hm
  go_enter Try.func5, Try.ntmps5
  go_wp2_with fail
  refine ((HK.out.put _ _ _ _ HSM.out (by omega) L0.out).mono fun _ _ h => h.yes HM.out).mono ?_
  rintro e w1 ⟨A2, c2, rfl, hp, hb⟩
  have X1 := Lib.hid hp
  clear hp
  have L1 := Lib.hid (L0.out.below hb)
  have S1 := Lib.hid (S0.out.below hb)
  have B1 := Lib.hid (below_chain B0.out hb)
  clear hb L0 S0 B0
  have hlx := X1.out.at.2.2.1
  have hcx := X1.out.at.2.2.2.1
  unfold maxLen at hcx
  have HLX := Lib.hid hlx
  clear hlx
  go_wp2_with fail
  refine (HK.out.mayC _ _ _ _ HSM.out L1.out).mono ?_
  rintro e w2 ⟨he, hb⟩
  have L2 := Lib.hid (L1.out.below hb)
  have S2 := Lib.hid (S1.out.below hb)
  have B2 := Lib.hid (below_chain B1.out hb)
  have X2 := Lib.hid (X1.out.below hb)
  clear hb L1 S1 B1 X1
  rw [HM.out] at he
  subst he
  go_wp2_with fail
  refine ((HK.out.get _ _ _ _ (by have := HPM.out; omega) X2.out).mono fun _ _ h => h.has (get_put HM.out)).mono ?_
  rintro e w3 ⟨A3, c3, rfl, hp, hb⟩
  have M3 := Lib.hid hp
  clear hp
  have L3 := Lib.hid (L2.out.below hb)
  have S3 := Lib.hid (S2.out.below hb)
  have B3 := Lib.hid (below_chain B2.out hb)
  have X3 := Lib.hid (X2.out.below hb)
  clear hb L2 S2 B2 X2
  have hch := Changes_any l0 l0 A3 A0 c3 c0 _ _ w3 (by omega) (by omega) M3.out.at.2.1 L3.out.at.2.1
  rw [decide_eq_true rfl] at hch
  clear M3
  go_wp2_with fail
  refine hch.mono ?_
  clear hch
  rintro e w4 ⟨rfl, hb⟩
  have L4 := Lib.hid (L3.out.below hb)
  have S4 := Lib.hid (S3.out.below hb)
  have B4 := Lib.hid (below_chain B3.out hb)
  have X4 := Lib.hid (X3.out.below hb)
  clear hb L3 S3 B3 X3
  obtain ⟨bx, ox, rfl⟩ := X4.out.head (by have := HKK.out; omega)
  have hsl := slB_h bx ox (putFrom [] l0).length c2 k (by have := HLX.out; have := HKK.out; omega)
  have T4 := Lib.hid (X4.out.take k (by have := HKK.out; omega))
  clear X4
  go_wp2_with fail
  clear hsl
  refine ((HK.out.get _ _ _ _ (by rw [List.length_take]; have := HKK.out; have := HPM.out; omega) T4.out).mono fun _ _ h => h.err HG.out).mono ?_
  rintro e w5 ⟨A5, c5, rfl, hp, hb⟩
  have L5 := Lib.hid (L4.out.below hb)
  have S5 := Lib.hid (S4.out.below hb)
  have B5 := Lib.hid (below_chain B4.out hb)
  clear hp
  clear hb L4 S4 B4 T4
  go_wp2_with fail
  refine ((HK.out.get _ _ _ _ (by omega) S5.out).mono fun _ _ h => h.err hgb).mono ?_
  rintro e w20 ⟨A20, c20, rfl, hp, hb⟩
  have L20 := Lib.hid (L5.out.below hb)
  have S20 := Lib.hid (S5.out.below hb)
  have B20 := Lib.hid (below_chain B5.out hb)
  clear hp
  clear hb L5 S5 B5
  have hne : (er == 0) = false := by simpa using herr
  have hne' : (er != 0) = true := by simpa using herr
  clear herr
  go_wp2_with fail
  refine (lives7_any HK.out _).mono ?_
  rintro e w90 ⟨rfl, hb⟩
  have B90 := Lib.hid (below_chain B20.out hb)
  clear hb B20
  go_wp2_with fail
  go_ret
  exact ⟨rfl, B90.out⟩
set_option maxHeartbeats 8000000 in
theorem carries7_cut4_has (K : K7) (l0 : List Ch) (A0 : Option Addr) (c0 : Nat) (l1 : List UInt8) (A1 : Option Addr) (c1 : Nat) (x : Int) (w : World)
    (hs : ∀ z ∈ l0, z.1.length ≤ maxLen) (r0 : RdX chgE w (· < w.heap.size) A0 l0) (hc0 : l0.length ≤ c0) (hm0 : c0 ≤ maxLen) (n0 : A0 = none → l0 = [] ∧ c0 = 0)
    (r1 : Rd w A1 l1) (hc1 : l1.length ≤ c1) (hm1 : c1 ≤ maxLen) (n1 : A1 = none → l1 = [] ∧ c1 = 0) (h0 : ¬ 200 < l0.length) (h1 : ¬ 262144 < l1.length) (hm : mayCP l0 = true) (k : Nat) (hx : x = (k : Int)) (hk : k < (putFrom [] l0).length) (hg : getC ((putFrom [] l0).take k) = .error 4) (m : List Ch) (hgb : getC l1 = .ok m) :
    Calls Try.prog 5 #[.slice A0 l0.length c0, .slice A1 l1.length c1, .int .i64 x] w fun e w' => e = .returned (.bool true) ∧ Below w.heap.size w w' := by
  have HK := Lib.hid K
  have B0 := Lib.hid (Below.refl w.heap.size w)
  have L0 := Lib.hid (show LsV chgE w (· < w.heap.size) (.slice A0 l0.length c0) l0 from ⟨A0, c0, rfl, r0, hc0, hm0, n0⟩)
  have S0 := Lib.hid (show BsV w anyB (.slice A1 l1.length c1) l1 from ⟨A1, c1, rfl, r1.f fun _ _ _ _ => trivial, n1, hc1, hm1⟩)
  have HS := Lib.hid hs
  unfold maxLen at hm0 hm1
  have hm0' : (l0.length : Int) ≤ 9223372036854775807 := by omega
  have hm1' : (l1.length : Int) ≤ 9223372036854775807 := by omega
  clear K r0 r1 n0 n1 hs
  have h0' : ¬ (200 : Int) < (l0.length : Int) := by omega
  have h1' : ¬ (262144 : Int) < (l1.length : Int) := by omega
  have HSM := Lib.hid (show SmallC l0 from ⟨by omega, fun z hz => by have := HS.out z hz; unfold maxLen at this; exact this⟩)
  have HPM := Lib.hid (put_most l0 [] hm)
  subst hx
  have hp0 := put_some (l := l0) (by omega)
  have hk0 : (0 : Int) ≤ (k : Int) := by omega
  have hk1 : (k : Int) < ((putFrom [] l0).length : Int) := by omega
  have HKK := Lib.hid hk
  have HG := Lib.hid hg
  clear hk hg
  have hp1 := hp0
  clear hp0
  have hl0 : ¬ l0 = [] := by rintro rfl; simp at hp1
  clear hp1
  obtain ⟨hmb, hpb⟩ := get_back hgb
  have hf4 := put_four m []
  rw [hpb] at hf4
  have HSB := Lib.hid (show SmallC m from ⟨by omega, fun z hz => by have := mayC_small hmb z hz; omega⟩)
  have HF4 := Lib.hid hf4
  have HGB := Lib.hid hgb
  have HMB := Lib.hid hmb
  have HPB := Lib.hid hpb
  clear hf4 hgb hmb hpb
  have HM := Lib.hid hm
  clear hm
  go_enter Try.func5, Try.ntmps5
  go_wp2_with fail
  refine ((HK.out.put _ _ _ _ HSM.out (by omega) L0.out).mono fun _ _ h => h.yes HM.out).mono ?_
  rintro e w1 ⟨A2, c2, rfl, hp, hb⟩
  have X1 := Lib.hid hp
  clear hp
  have L1 := Lib.hid (L0.out.below hb)
  have S1 := Lib.hid (S0.out.below hb)
  have B1 := Lib.hid (below_chain B0.out hb)
  clear hb L0 S0 B0
  have hlx := X1.out.at.2.2.1
  have hcx := X1.out.at.2.2.2.1
  unfold maxLen at hcx
  have HLX := Lib.hid hlx
  clear hlx
  go_wp2_with fail
  refine (HK.out.mayC _ _ _ _ HSM.out L1.out).mono ?_
  rintro e w2 ⟨he, hb⟩
  have L2 := Lib.hid (L1.out.below hb)
  have S2 := Lib.hid (S1.out.below hb)
  have B2 := Lib.hid (below_chain B1.out hb)
  have X2 := Lib.hid (X1.out.below hb)
  clear hb L1 S1 B1 X1
  rw [HM.out] at he
  subst he
  go_wp2_with fail
  refine ((HK.out.get _ _ _ _ (by have := HPM.out; omega) X2.out).mono fun _ _ h => h.has (get_put HM.out)).mono ?_
  rintro e w3 ⟨A3, c3, rfl, hp, hb⟩
  have M3 := Lib.hid hp
  clear hp
  have L3 := Lib.hid (L2.out.below hb)
  have S3 := Lib.hid (S2.out.below hb)
  have B3 := Lib.hid (below_chain B2.out hb)
  have X3 := Lib.hid (X2.out.below hb)
  clear hb L2 S2 B2 X2
  have hch := Changes_any l0 l0 A3 A0 c3 c0 _ _ w3 (by omega) (by omega) M3.out.at.2.1 L3.out.at.2.1
  rw [decide_eq_true rfl] at hch
  clear M3
  go_wp2_with fail
  refine hch.mono ?_
  clear hch
  rintro e w4 ⟨rfl, hb⟩
  have L4 := Lib.hid (L3.out.below hb)
  have S4 := Lib.hid (S3.out.below hb)
  have B4 := Lib.hid (below_chain B3.out hb)
  have X4 := Lib.hid (X3.out.below hb)
  clear hb L3 S3 B3 X3
  obtain ⟨bx, ox, rfl⟩ := X4.out.head (by have := HKK.out; omega)
  have hsl := slB_h bx ox (putFrom [] l0).length c2 k (by have := HLX.out; have := HKK.out; omega)
  have T4 := Lib.hid (X4.out.take k (by have := HKK.out; omega))
  clear X4
  go_wp2_with fail
  clear hsl
  refine ((HK.out.get _ _ _ _ (by rw [List.length_take]; have := HKK.out; have := HPM.out; omega) T4.out).mono fun _ _ h => h.err HG.out).mono ?_
  rintro e w5 ⟨A5, c5, rfl, hp, hb⟩
  have L5 := Lib.hid (L4.out.below hb)
  have S5 := Lib.hid (S4.out.below hb)
  have B5 := Lib.hid (below_chain B4.out hb)
  clear hp
  clear hb L4 S4 B4 T4
  go_wp2_with fail
  refine ((HK.out.get _ _ _ _ (by omega) S5.out).mono fun _ _ h => h.has HGB.out).mono ?_
  rintro e w20 ⟨A20, c20, rfl, hp, hb⟩
  have M20 := Lib.hid hp
  clear hp
  have L20 := Lib.hid (L5.out.below hb)
  have S20 := Lib.hid (S5.out.below hb)
  have B20 := Lib.hid (below_chain B5.out hb)
  clear hb L5 S5 B5
  go_wp2_with fail
  refine ((HK.out.put _ _ _ _ HSB.out (by have := HF4.out; omega) M20.out).mono fun _ _ h => h.yes HMB.out).mono ?_
  rintro e w21 ⟨A21, c21, rfl, hp, hb⟩
  have Y21 := Lib.hid hp
  clear hp
  have L21 := Lib.hid (L20.out.below hb)
  have S21 := Lib.hid (S20.out.below hb)
  have B21 := Lib.hid (below_chain B20.out hb)
  have M21 := Lib.hid (M20.out.below hb)
  clear hb L20 S20 B20 M20
  rw [HPB.out] at Y21 ⊢
  have hsm := Same_any A21 A1 l1 l1 c21 c1 w21 Y21.out.at.2.1 S21.out.at.2.1
  rw [show (l1 == l1) = true by simp] at hsm
  clear Y21
  go_wp2_with fail
  refine hsm.mono ?_
  clear hsm
  rintro e _ ⟨rfl, rfl⟩
  go_wp2_with fail
  refine (HK.out.mayC _ _ _ _ HSB.out M21.out).mono ?_
  rintro e w22 ⟨he, hb⟩
  have L22 := Lib.hid (L21.out.below hb)
  have S22 := Lib.hid (S21.out.below hb)
  have B22 := Lib.hid (below_chain B21.out hb)
  have M22 := Lib.hid (M21.out.below hb)
  clear hb L21 S21 B21 M21
  rw [HMB.out] at he
  subst he
  go_wp2_with fail
  refine (lives7_any HK.out _).mono ?_
  rintro e w90 ⟨rfl, hb⟩
  have B90 := Lib.hid (below_chain B22.out hb)
  clear hb B22
  go_wp2_with fail
  go_ret
  exact ⟨rfl, B90.out⟩
set_option maxHeartbeats 8000000 in
theorem carries7_cutj_err (K : K7) (l0 : List Ch) (A0 : Option Addr) (c0 : Nat) (l1 : List UInt8) (A1 : Option Addr) (c1 : Nat) (x : Int) (w : World)
    (hs : ∀ z ∈ l0, z.1.length ≤ maxLen) (r0 : RdX chgE w (· < w.heap.size) A0 l0) (hc0 : l0.length ≤ c0) (hm0 : c0 ≤ maxLen) (n0 : A0 = none → l0 = [] ∧ c0 = 0)
    (r1 : Rd w A1 l1) (hc1 : l1.length ≤ c1) (hm1 : c1 ≤ maxLen) (n1 : A1 = none → l1 = [] ∧ c1 = 0) (h0 : ¬ 200 < l0.length) (h1 : ¬ 262144 < l1.length) (hm : mayCP l0 = true) (k j : Nat) (hx : x = (k : Int)) (hk : k < (putFrom [] l0).length) (hj : j < l0.length) (hg : getC ((putFrom [] l0).take k) = .ok (l0.take j)) (er : Int) (hgb : getC l1 = .error er) (herr : er ≠ 0) :
    Calls Try.prog 5 #[.slice A0 l0.length c0, .slice A1 l1.length c1, .int .i64 x] w fun e w' => e = .returned (.bool true) ∧ Below w.heap.size w w' := by
  have HK := Lib.hid K
  have B0 := Lib.hid (Below.refl w.heap.size w)
  have L0 := Lib.hid (show LsV chgE w (· < w.heap.size) (.slice A0 l0.length c0) l0 from ⟨A0, c0, rfl, r0, hc0, hm0, n0⟩)
  have S0 := Lib.hid (show BsV w anyB (.slice A1 l1.length c1) l1 from ⟨A1, c1, rfl, r1.f fun _ _ _ _ => trivial, n1, hc1, hm1⟩)
  have HS := Lib.hid hs
  unfold maxLen at hm0 hm1
  have hm0' : (l0.length : Int) ≤ 9223372036854775807 := by omega
  have hm1' : (l1.length : Int) ≤ 9223372036854775807 := by omega
  clear K r0 r1 n0 n1 hs
  have h0' : ¬ (200 : Int) < (l0.length : Int) := by omega
  have h1' : ¬ (262144 : Int) < (l1.length : Int) := by omega
  have HSM := Lib.hid (show SmallC l0 from ⟨by omega, fun z hz => by have := HS.out z hz; unfold maxLen at this; exact this⟩)
  have HPM := Lib.hid (put_most l0 [] hm)
  subst hx
  have hp0 := put_some (l := l0) (by omega)
  have hk0 : (0 : Int) ≤ (k : Int) := by omega
  have hk1 : (k : Int) < ((putFrom [] l0).length : Int) := by omega
  have HKK := Lib.hid hk
  have HG := Lib.hid hg
  clear hk hg
  have hp1 := hp0
  clear hp0
  clear hp1
  have hj1 : ¬ (l0.length : Int) ≤ (j : Int) := by omega
  have HJ := Lib.hid hj
  clear hj
  have HM := Lib.hid hm
  clear hm
  go_enter Try.func5, Try.ntmps5
  go_wp2_with fail
  refine ((HK.out.put _ _ _ _ HSM.out (by omega) L0.out).mono fun _ _ h => h.yes HM.out).mono ?_
  rintro e w1 ⟨A2, c2, rfl, hp, hb⟩
  have X1 := Lib.hid hp
  clear hp
  have L1 := Lib.hid (L0.out.below hb)
  have S1 := Lib.hid (S0.out.below hb)
  have B1 := Lib.hid (below_chain B0.out hb)
  clear hb L0 S0 B0
  have hlx := X1.out.at.2.2.1
  have hcx := X1.out.at.2.2.2.1
  unfold maxLen at hcx
  have HLX := Lib.hid hlx
  clear hlx
  go_wp2_with fail
  refine (HK.out.mayC _ _ _ _ HSM.out L1.out).mono ?_
  rintro e w2 ⟨he, hb⟩
  have L2 := Lib.hid (L1.out.below hb)
  have S2 := Lib.hid (S1.out.below hb)
  have B2 := Lib.hid (below_chain B1.out hb)
  have X2 := Lib.hid (X1.out.below hb)
  clear hb L1 S1 B1 X1
  rw [HM.out] at he
  subst he
  go_wp2_with fail
  refine ((HK.out.get _ _ _ _ (by have := HPM.out; omega) X2.out).mono fun _ _ h => h.has (get_put HM.out)).mono ?_
  rintro e w3 ⟨A3, c3, rfl, hp, hb⟩
  have M3 := Lib.hid hp
  clear hp
  have L3 := Lib.hid (L2.out.below hb)
  have S3 := Lib.hid (S2.out.below hb)
  have B3 := Lib.hid (below_chain B2.out hb)
  have X3 := Lib.hid (X2.out.below hb)
  clear hb L2 S2 B2 X2
  have hch := Changes_any l0 l0 A3 A0 c3 c0 _ _ w3 (by omega) (by omega) M3.out.at.2.1 L3.out.at.2.1
  rw [decide_eq_true rfl] at hch
  clear M3
  go_wp2_with fail
  refine hch.mono ?_
  clear hch
  rintro e w4 ⟨rfl, hb⟩
  have L4 := Lib.hid (L3.out.below hb)
  have S4 := Lib.hid (S3.out.below hb)
  have B4 := Lib.hid (below_chain B3.out hb)
  have X4 := Lib.hid (X3.out.below hb)
  clear hb L3 S3 B3 X3
  obtain ⟨bx, ox, rfl⟩ := X4.out.head (by have := HKK.out; omega)
  have hsl := slB_h bx ox (putFrom [] l0).length c2 k (by have := HLX.out; have := HKK.out; omega)
  have T4 := Lib.hid (X4.out.take k (by have := HKK.out; omega))
  clear X4
  go_wp2_with fail
  clear hsl
  refine ((HK.out.get _ _ _ _ (by rw [List.length_take]; have := HKK.out; have := HPM.out; omega) T4.out).mono fun _ _ h => h.has HG.out).mono ?_
  rintro e w5 ⟨A5, c5, rfl, hp, hb⟩
  have M5 := Lib.hid hp
  clear hp
  have L5 := Lib.hid (L4.out.below hb)
  have S5 := Lib.hid (S4.out.below hb)
  have B5 := Lib.hid (below_chain B4.out hb)
  clear hb L4 S4 B4 T4
  have hlj : (l0.take j).length = j := by rw [List.length_take]; have := HJ.out; omega
  rw [hlj] at M5 ⊢
  obtain ⟨b0, o0, rfl⟩ := L5.out.head (by have := HJ.out; omega)
  have hsl := slC_h b0 o0 l0.length c0 j (by have := HJ.out; omega)
  have hch := Changes_any (l0.take j) (l0.take j) A5 (some ⟨b0, o0, none⟩) c5 c0 _ _ w5 (by have := HJ.out; omega) (by have := HJ.out; omega) M5.out.at.2.1 (L5.out.at.2.1.take j)
  rw [decide_eq_true rfl, hlj] at hch
  clear M5
  go_wp2_with fail
  clear hsl
  refine hch.mono ?_
  clear hch
  rintro e w6 ⟨rfl, hb⟩
  have L6 := Lib.hid (L5.out.below hb)
  have S6 := Lib.hid (S5.out.below hb)
  have B6 := Lib.hid (below_chain B5.out hb)
  clear hb L5 S5 B5
  go_wp2_with fail
  refine ((HK.out.get _ _ _ _ (by omega) S6.out).mono fun _ _ h => h.err hgb).mono ?_
  rintro e w20 ⟨A20, c20, rfl, hp, hb⟩
  have L20 := Lib.hid (L6.out.below hb)
  have S20 := Lib.hid (S6.out.below hb)
  have B20 := Lib.hid (below_chain B6.out hb)
  clear hp
  clear hb L6 S6 B6
  have hne : (er == 0) = false := by simpa using herr
  have hne' : (er != 0) = true := by simpa using herr
  clear herr
  go_wp2_with fail
  refine (lives7_any HK.out _).mono ?_
  rintro e w90 ⟨rfl, hb⟩
  have B90 := Lib.hid (below_chain B20.out hb)
  clear hb B20
  go_wp2_with fail
  go_ret
  exact ⟨rfl, B90.out⟩
set_option maxHeartbeats 8000000 in
theorem carries7_cutj_has (K : K7) (l0 : List Ch) (A0 : Option Addr) (c0 : Nat) (l1 : List UInt8) (A1 : Option Addr) (c1 : Nat) (x : Int) (w : World)
    (hs : ∀ z ∈ l0, z.1.length ≤ maxLen) (r0 : RdX chgE w (· < w.heap.size) A0 l0) (hc0 : l0.length ≤ c0) (hm0 : c0 ≤ maxLen) (n0 : A0 = none → l0 = [] ∧ c0 = 0)
    (r1 : Rd w A1 l1) (hc1 : l1.length ≤ c1) (hm1 : c1 ≤ maxLen) (n1 : A1 = none → l1 = [] ∧ c1 = 0) (h0 : ¬ 200 < l0.length) (h1 : ¬ 262144 < l1.length) (hm : mayCP l0 = true) (k j : Nat) (hx : x = (k : Int)) (hk : k < (putFrom [] l0).length) (hj : j < l0.length) (hg : getC ((putFrom [] l0).take k) = .ok (l0.take j)) (m : List Ch) (hgb : getC l1 = .ok m) :
    Calls Try.prog 5 #[.slice A0 l0.length c0, .slice A1 l1.length c1, .int .i64 x] w fun e w' => e = .returned (.bool true) ∧ Below w.heap.size w w' := by
  have HK := Lib.hid K
  have B0 := Lib.hid (Below.refl w.heap.size w)
  have L0 := Lib.hid (show LsV chgE w (· < w.heap.size) (.slice A0 l0.length c0) l0 from ⟨A0, c0, rfl, r0, hc0, hm0, n0⟩)
  have S0 := Lib.hid (show BsV w anyB (.slice A1 l1.length c1) l1 from ⟨A1, c1, rfl, r1.f fun _ _ _ _ => trivial, n1, hc1, hm1⟩)
  have HS := Lib.hid hs
  unfold maxLen at hm0 hm1
  have hm0' : (l0.length : Int) ≤ 9223372036854775807 := by omega
  have hm1' : (l1.length : Int) ≤ 9223372036854775807 := by omega
  clear K r0 r1 n0 n1 hs
  have h0' : ¬ (200 : Int) < (l0.length : Int) := by omega
  have h1' : ¬ (262144 : Int) < (l1.length : Int) := by omega
  have HSM := Lib.hid (show SmallC l0 from ⟨by omega, fun z hz => by have := HS.out z hz; unfold maxLen at this; exact this⟩)
  have HPM := Lib.hid (put_most l0 [] hm)
  subst hx
  have hp0 := put_some (l := l0) (by omega)
  have hk0 : (0 : Int) ≤ (k : Int) := by omega
  have hk1 : (k : Int) < ((putFrom [] l0).length : Int) := by omega
  have HKK := Lib.hid hk
  have HG := Lib.hid hg
  clear hk hg
  have hp1 := hp0
  clear hp0
  clear hp1
  have hj1 : ¬ (l0.length : Int) ≤ (j : Int) := by omega
  have HJ := Lib.hid hj
  clear hj
  obtain ⟨hmb, hpb⟩ := get_back hgb
  have hf4 := put_four m []
  rw [hpb] at hf4
  have HSB := Lib.hid (show SmallC m from ⟨by omega, fun z hz => by have := mayC_small hmb z hz; omega⟩)
  have HF4 := Lib.hid hf4
  have HGB := Lib.hid hgb
  have HMB := Lib.hid hmb
  have HPB := Lib.hid hpb
  clear hf4 hgb hmb hpb
  have HM := Lib.hid hm
  clear hm
  go_enter Try.func5, Try.ntmps5
  go_wp2_with fail
  refine ((HK.out.put _ _ _ _ HSM.out (by omega) L0.out).mono fun _ _ h => h.yes HM.out).mono ?_
  rintro e w1 ⟨A2, c2, rfl, hp, hb⟩
  have X1 := Lib.hid hp
  clear hp
  have L1 := Lib.hid (L0.out.below hb)
  have S1 := Lib.hid (S0.out.below hb)
  have B1 := Lib.hid (below_chain B0.out hb)
  clear hb L0 S0 B0
  have hlx := X1.out.at.2.2.1
  have hcx := X1.out.at.2.2.2.1
  unfold maxLen at hcx
  have HLX := Lib.hid hlx
  clear hlx
  go_wp2_with fail
  refine (HK.out.mayC _ _ _ _ HSM.out L1.out).mono ?_
  rintro e w2 ⟨he, hb⟩
  have L2 := Lib.hid (L1.out.below hb)
  have S2 := Lib.hid (S1.out.below hb)
  have B2 := Lib.hid (below_chain B1.out hb)
  have X2 := Lib.hid (X1.out.below hb)
  clear hb L1 S1 B1 X1
  rw [HM.out] at he
  subst he
  go_wp2_with fail
  refine ((HK.out.get _ _ _ _ (by have := HPM.out; omega) X2.out).mono fun _ _ h => h.has (get_put HM.out)).mono ?_
  rintro e w3 ⟨A3, c3, rfl, hp, hb⟩
  have M3 := Lib.hid hp
  clear hp
  have L3 := Lib.hid (L2.out.below hb)
  have S3 := Lib.hid (S2.out.below hb)
  have B3 := Lib.hid (below_chain B2.out hb)
  have X3 := Lib.hid (X2.out.below hb)
  clear hb L2 S2 B2 X2
  have hch := Changes_any l0 l0 A3 A0 c3 c0 _ _ w3 (by omega) (by omega) M3.out.at.2.1 L3.out.at.2.1
  rw [decide_eq_true rfl] at hch
  clear M3
  go_wp2_with fail
  refine hch.mono ?_
  clear hch
  rintro e w4 ⟨rfl, hb⟩
  have L4 := Lib.hid (L3.out.below hb)
  have S4 := Lib.hid (S3.out.below hb)
  have B4 := Lib.hid (below_chain B3.out hb)
  have X4 := Lib.hid (X3.out.below hb)
  clear hb L3 S3 B3 X3
  obtain ⟨bx, ox, rfl⟩ := X4.out.head (by have := HKK.out; omega)
  have hsl := slB_h bx ox (putFrom [] l0).length c2 k (by have := HLX.out; have := HKK.out; omega)
  have T4 := Lib.hid (X4.out.take k (by have := HKK.out; omega))
  clear X4
  go_wp2_with fail
  clear hsl
  refine ((HK.out.get _ _ _ _ (by rw [List.length_take]; have := HKK.out; have := HPM.out; omega) T4.out).mono fun _ _ h => h.has HG.out).mono ?_
  rintro e w5 ⟨A5, c5, rfl, hp, hb⟩
  have M5 := Lib.hid hp
  clear hp
  have L5 := Lib.hid (L4.out.below hb)
  have S5 := Lib.hid (S4.out.below hb)
  have B5 := Lib.hid (below_chain B4.out hb)
  clear hb L4 S4 B4 T4
  have hlj : (l0.take j).length = j := by rw [List.length_take]; have := HJ.out; omega
  rw [hlj] at M5 ⊢
  obtain ⟨b0, o0, rfl⟩ := L5.out.head (by have := HJ.out; omega)
  have hsl := slC_h b0 o0 l0.length c0 j (by have := HJ.out; omega)
  have hch := Changes_any (l0.take j) (l0.take j) A5 (some ⟨b0, o0, none⟩) c5 c0 _ _ w5 (by have := HJ.out; omega) (by have := HJ.out; omega) M5.out.at.2.1 (L5.out.at.2.1.take j)
  rw [decide_eq_true rfl, hlj] at hch
  clear M5
  go_wp2_with fail
  clear hsl
  refine hch.mono ?_
  clear hch
  rintro e w6 ⟨rfl, hb⟩
  have L6 := Lib.hid (L5.out.below hb)
  have S6 := Lib.hid (S5.out.below hb)
  have B6 := Lib.hid (below_chain B5.out hb)
  clear hb L5 S5 B5
  go_wp2_with fail
  refine ((HK.out.get _ _ _ _ (by omega) S6.out).mono fun _ _ h => h.has HGB.out).mono ?_
  rintro e w20 ⟨A20, c20, rfl, hp, hb⟩
  have M20 := Lib.hid hp
  clear hp
  have L20 := Lib.hid (L6.out.below hb)
  have S20 := Lib.hid (S6.out.below hb)
  have B20 := Lib.hid (below_chain B6.out hb)
  clear hb L6 S6 B6
  go_wp2_with fail
  refine ((HK.out.put _ _ _ _ HSB.out (by have := HF4.out; omega) M20.out).mono fun _ _ h => h.yes HMB.out).mono ?_
  rintro e w21 ⟨A21, c21, rfl, hp, hb⟩
  have Y21 := Lib.hid hp
  clear hp
  have L21 := Lib.hid (L20.out.below hb)
  have S21 := Lib.hid (S20.out.below hb)
  have B21 := Lib.hid (below_chain B20.out hb)
  have M21 := Lib.hid (M20.out.below hb)
  clear hb L20 S20 B20 M20
  rw [HPB.out] at Y21 ⊢
  have hsm := Same_any A21 A1 l1 l1 c21 c1 w21 Y21.out.at.2.1 S21.out.at.2.1
  rw [show (l1 == l1) = true by simp] at hsm
  clear Y21
  go_wp2_with fail
  refine hsm.mono ?_
  clear hsm
  rintro e _ ⟨rfl, rfl⟩
  go_wp2_with fail
  refine (HK.out.mayC _ _ _ _ HSB.out M21.out).mono ?_
  rintro e w22 ⟨he, hb⟩
  have L22 := Lib.hid (L21.out.below hb)
  have S22 := Lib.hid (S21.out.below hb)
  have B22 := Lib.hid (below_chain B21.out hb)
  have M22 := Lib.hid (M21.out.below hb)
  clear hb L21 S21 B21 M21
  rw [HMB.out] at he
  subst he
  go_wp2_with fail
  refine (lives7_any HK.out _).mono ?_
  rintro e w90 ⟨rfl, hb⟩
  have B90 := Lib.hid (below_chain B22.out hb)
  clear hb B22
  go_wp2_with fail
  go_ret
  exact ⟨rfl, B90.out⟩
set_option maxHeartbeats 8000000 in
theorem carries7_walk (K : K7) (l0 : List Ch) (A0 : Option Addr) (c0 : Nat) (l1 : List UInt8) (A1 : Option Addr) (c1 : Nat) (x : Int) (w : World)
    (hs : ∀ z ∈ l0, z.1.length ≤ maxLen) (r0 : RdX chgE w (· < w.heap.size) A0 l0) (hc0 : l0.length ≤ c0) (hm0 : c0 ≤ maxLen) (n0 : A0 = none → l0 = [] ∧ c0 = 0)
    (r1 : Rd w A1 l1) (hc1 : l1.length ≤ c1) (hm1 : c1 ≤ maxLen) (n1 : A1 = none → l1 = [] ∧ c1 = 0) :
    Calls Try.prog 5 #[.slice A0 l0.length c0, .slice A1 l1.length c1, .int .i64 x] w fun e w' => e = .returned (.bool true) ∧ Below w.heap.size w w' := by
  by_cases h0 : 200 < l0.length
  · exact carries7_long K l0 A0 c0 l1 A1 c1 x w hs r0 hc0 hm0 n0 r1 hc1 hm1 n1 (.inl h0)
  by_cases h1 : 262144 < l1.length
  · exact carries7_long K l0 A0 c0 l1 A1 c1 x w hs r0 hc0 hm0 n0 r1 hc1 hm1 n1 (.inr h1)
  cases hm : mayCP l0
  · cases hgb : getC l1 with
    | error er => exact carries7_not_err K l0 A0 c0 l1 A1 c1 _ w hs r0 hc0 hm0 n0 r1 hc1 hm1 n1 h0 h1 hm er hgb (get_err hgb)
    | ok m => exact carries7_not_has K l0 A0 c0 l1 A1 c1 _ w hs r0 hc0 hm0 n0 r1 hc1 hm1 n1 h0 h1 hm m hgb
  by_cases hx : 0 ≤ x
  rotate_left
  · cases hgb : getC l1 with
    | error er => exact carries7_low_err K l0 A0 c0 l1 A1 c1 _ w hs r0 hc0 hm0 n0 r1 hc1 hm1 n1 h0 h1 hm hx er hgb (get_err hgb)
    | ok m => exact carries7_low_has K l0 A0 c0 l1 A1 c1 _ w hs r0 hc0 hm0 n0 r1 hc1 hm1 n1 h0 h1 hm hx m hgb
  by_cases hx2 : x < ((putFrom [] l0).length : Int)
  rotate_left
  · cases hgb : getC l1 with
    | error er => exact carries7_high_err K l0 A0 c0 l1 A1 c1 _ w hs r0 hc0 hm0 n0 r1 hc1 hm1 n1 h0 h1 hm hx hx2 er hgb (get_err hgb)
    | ok m => exact carries7_high_has K l0 A0 c0 l1 A1 c1 _ w hs r0 hc0 hm0 n0 r1 hc1 hm1 n1 h0 h1 hm hx hx2 m hgb
  obtain ⟨k, rfl⟩ := Int.eq_ofNat_of_zero_le hx
  have hk : k < (putFrom [] l0).length := by omega
  rcases get_cut hm hk with hg | ⟨j, hj, hg⟩
  · cases hgb : getC l1 with
    | error er => exact carries7_cut4_err K l0 A0 c0 l1 A1 c1 _ w hs r0 hc0 hm0 n0 r1 hc1 hm1 n1 h0 h1 hm k rfl hk hg er hgb (get_err hgb)
    | ok m => exact carries7_cut4_has K l0 A0 c0 l1 A1 c1 _ w hs r0 hc0 hm0 n0 r1 hc1 hm1 n1 h0 h1 hm k rfl hk hg m hgb
  · cases hgb : getC l1 with
    | error er => exact carries7_cutj_err K l0 A0 c0 l1 A1 c1 _ w hs r0 hc0 hm0 n0 r1 hc1 hm1 n1 h0 h1 hm k j rfl hk hj hg er hgb (get_err hgb)
    | ok m => exact carries7_cutj_has K l0 A0 c0 l1 A1 c1 _ w hs r0 hc0 hm0 n0 r1 hc1 hm1 n1 h0 h1 hm k j rfl hk hj hg m hgb

end Go.Proofs.Ytiemphfikfigdaa
