/- BatchLeads: a path, or two. -/
import Derived.Test.YtiemphfikfigdaaBatLeads0
namespace Go.Proofs.Ytiemphfikfigdaa
open Go.RowKit Go.Shelf
set_option linter.unusedVariables false
set_option maxRecDepth 100000
set_option linter.unusedSimpArgs false

set_option maxHeartbeats 8000000 in
theorem leads7_no_some (K : K7) (l0 : List Rw) (A0 : Option Addr) (c0 : Nat) (l1 : List Rw) (A1 : Option Addr) (c1 : Nat) (l2 : List Ch) (A2 : Option Addr) (c2 : Nat) (n3 : Nat) (w : World)
    (hs0 : ∀ z ∈ l0, z.1.length ≤ maxLen) (r0 : RdX rowE w (· < w.heap.size) A0 l0) (hc0 : l0.length ≤ c0) (hm0 : c0 ≤ maxLen) (n0 : A0 = none → l0 = [] ∧ c0 = 0)
    (hs1 : ∀ z ∈ l1, z.1.length ≤ maxLen) (r1 : RdX rowE w (· < w.heap.size) A1 l1) (hc1 : l1.length ≤ c1) (hm1 : c1 ≤ maxLen) (n1 : A1 = none → l1 = [] ∧ c1 = 0)
    (hs2 : ∀ z ∈ l2, z.1.length ≤ maxLen) (r2 : RdX chgE w (· < w.heap.size) A2 l2) (hc2 : l2.length ≤ c2) (hm2 : c2 ≤ maxLen) (n2 : A2 = none → l2 = [] ∧ c2 = 0) (hi3 : n3 < 256) (h0 : ¬ 60 < l0.length) (h1 : ¬ 60 < l1.length) (h2 : ¬ 60 < l2.length) (hA : (mayP l0 && mayCP l2) = false) (hB : (mayP l0 && mayP l1) = true) (hN : 0 < (betweenP l0 l1).length) :
    Calls Try.prog 6 #[.slice A0 l0.length c0, .slice A1 l1.length c1, .slice A2 l2.length c2, .int .u8 (n3 : Int)] w fun e w' => e = .returned (.bool true) ∧ Below w.heap.size w w' := by
  have HK := Lib.hid K
  have B0 := Lib.hid (Below.refl w.heap.size w)
  have T0 := Lib.hid (show LsV rowE w (· < w.heap.size) (.slice A0 l0.length c0) l0 from ⟨A0, c0, rfl, r0, hc0, hm0, n0⟩)
  have U0 := Lib.hid (show LsV rowE w (· < w.heap.size) (.slice A1 l1.length c1) l1 from ⟨A1, c1, rfl, r1, hc1, hm1, n1⟩)
  have L0 := Lib.hid (show LsV chgE w (· < w.heap.size) (.slice A2 l2.length c2) l2 from ⟨A2, c2, rfl, r2, hc2, hm2, n2⟩)
  have HS0 := Lib.hid hs0
  have HS1 := Lib.hid hs1
  have HS2 := Lib.hid hs2
  unfold maxLen at hm0 hm1 hm2
  have hm0' : (l0.length : Int) ≤ 9223372036854775807 := by omega
  have hm1' : (l1.length : Int) ≤ 9223372036854775807 := by omega
  have hm2' : (l2.length : Int) ≤ 9223372036854775807 := by omega
  clear K r0 r1 r2 n0 n1 n2 hs0 hs1 hs2
  have h0' : ¬ (60 : Int) < (l0.length : Int) := by omega
  have h1' : ¬ (60 : Int) < (l1.length : Int) := by omega
  have h2' : ¬ (60 : Int) < (l2.length : Int) := by omega
  have HM0 := Lib.hid (show SmallR l0 from ⟨by omega, fun z hz => by have := HS0.out z hz; unfold maxLen at this; exact this⟩)
  have HM1 := Lib.hid (show SmallR l1 from ⟨by omega, fun z hz => by have := HS1.out z hz; unfold maxLen at this; exact this⟩)
  have HM2 := Lib.hid (show SmallC l2 from ⟨by omega, fun z hz => by have := HS2.out z hz; unfold maxLen at this; exact this⟩)
  have HA := Lib.hid hA
  have HB := Lib.hid hB
  have hb1 := hB
  rw [Bool.and_eq_true] at hb1
  have HP0 := Lib.hid hb1.1
  have HP1 := Lib.hid hb1.2
  have HMB := Lib.hid (may_between hb1.1 hb1.2)
  have HAB := Lib.hid (apply_between hb1.1 hb1.2)
  have HLB := Lib.hid (show (betweenP l0 l1).length ≤ 120 by have := between_len7 l0 l1; unfold betwR at this; rw [if_pos hB] at this; omega)
  have HN := Lib.hid hN
  clear hb1 hN
  clear hA hB
  go_enter Try.func6, Try.ntmps6
  go_wp2_with fail
  refine ((HK.out.apply _ _ _ _ _ _ _ HM0.out HM2.out (by omega) (by omega) T0.out L0.out).mono fun _ _ h => h.no HA.out).mono ?_
  rintro e w1 ⟨Ax, cx, rfl, hp, hb⟩
  have X1 := Lib.hid hp
  clear hp
  have T1 := Lib.hid (T0.out.below hb)
  have U1 := Lib.hid (U0.out.below hb)
  have L1 := Lib.hid (L0.out.below hb)
  have B1 := Lib.hid (below_chain B0.out hb)
  clear hb T0 U0 L0 B0
  go_wp2_with fail
  refine (apply_p HK.out smallR_nil HM2.out (by simp) (by omega) X1.out.rowE L1.out).mono ?_
  rintro e w2 ⟨Ay, cy, rfl, hp, hb⟩
  have T2 := Lib.hid (T1.out.below hb)
  have U2 := Lib.hid (U1.out.below hb)
  have B2 := Lib.hid (below_chain B1.out hb)
  clear hp
  clear hb T1 U1 L1 B1 X1
  go_wp2_with fail
  refine ((HK.out.betw _ _ _ _ _ _ _ HM0.out HM1.out (by omega) (by omega) T2.out U2.out).mono fun _ _ h => h.yes HB.out).mono ?_
  rintro e w10 ⟨Ac, cc, rfl, hp, hb⟩
  have C10 := Lib.hid hp
  clear hp
  have T10 := Lib.hid (T2.out.below hb)
  have U10 := Lib.hid (U2.out.below hb)
  have B10 := Lib.hid (below_chain B2.out hb)
  clear hb T2 U2 B2
  obtain ⟨lc, hlc⟩ : ∃ lc, lc = betweenP l0 l1 := ⟨_, rfl⟩
  rw [← hlc] at C10 ⊢
  have HLC := Lib.hid hlc
  clear hlc
  have hl120 := HLB.out
  rw [← HLC.out] at hl120
  have HCM := Lib.hid (show mayCP lc = true by rw [HLC.out]; exact HMB.out)
  have HSC := Lib.hid (smallC_of HCM.out (by omega))
  have HL120 := Lib.hid hl120
  clear hl120
  go_wp2_with fail
  refine ((HK.out.apply _ _ _ _ _ _ _ HM0.out HSC.out (by omega) (by have := HL120.out; omega) T10.out C10.out.chgE).mono fun _ _ h => h.yes (by rw [HCM.out, HP0.out]; rfl)).mono ?_
  rintro e w11 ⟨Ad, cd, rfl, hp, hb⟩
  have D11 := Lib.hid hp
  clear hp
  have T11 := Lib.hid (T10.out.below hb)
  have U11 := Lib.hid (U10.out.below hb)
  have B11 := Lib.hid (below_chain B10.out hb)
  have C11 := Lib.hid (C10.out.below hb)
  clear hb T10 U10 B10 C10
  rw [show applyP l0 lc = l1 by rw [HLC.out]; exact HAB.out] at D11
  rw [show applyP l0 lc = l1 by rw [HLC.out]; exact HAB.out]
  have hrs := Rows_any l1 l1 Ad A1 cd c1 _ _ w11 (by omega) (by omega) D11.out.rowE.at.2.1 U11.out.at.2.1
  rw [decide_eq_true rfl] at hrs
  go_wp2_with fail
  refine hrs.mono ?_
  clear hrs
  rintro e w12 ⟨rfl, hb⟩
  have T12 := Lib.hid (T11.out.below hb)
  have U12 := Lib.hid (U11.out.below hb)
  have B12 := Lib.hid (below_chain B11.out hb)
  have C12 := Lib.hid (C11.out.below hb)
  have D12 := Lib.hid (D11.out.below hb)
  clear hb T11 U11 B11 C11 D11
  clear D12
  have hpos : 0 < lc.length := by rw [HLC.out]; exact HN.out
  have hpos' : (0 : Int) < (lc.length : Int) := by omega
  obtain ⟨bc, oc, rfl⟩ := C12.out.head hpos
  obtain ⟨k, hk⟩ : ∃ k, k = n3 % lc.length := ⟨_, rfl⟩
  have hkl : k < lc.length := by rw [hk]; exact Nat.mod_lt _ hpos
  have hrem : Int.tmod (n3 : Int) (lc.length : Int) = (k : Int) := by rw [hk]; rfl
  have hne : ¬ (lc.length : Int) = 0 := by omega
  have hcc := C12.out.at.2.2.1
  have hcm := C12.out.at.2.2.2.1
  unfold maxLen at hcm
  have hsl := slC_h bc oc lc.length cc k (by omega)
  have hs2 := fun W => slC_l bc oc lc.length cc (k + 1) (by omega) hcc W
  obtain ⟨A9, hs3, hA9⟩ : ∃ A9 : Addr, (∀ W, (Instr.slice 22 (.slice (some ⟨bc, oc, none⟩) lc.length cc) (some (.int .i64 ((k : Int) + 1))) none none).run Try.prog W = .ok (.slice (some A9) (lc.length - (k + 1)) (cc - (k + 1))) W) ∧ A9.spot = none ∧ RdX chgE w12 (· < w12.heap.size) (some A9) (lc.drop (k + 1)) := slice_rest C12.out hkl
  clear hs2
  have hwr : wrap64 ((k : Int) + 1) = (k : Int) + 1 := wrap_succ7 (by omega)
  have RX := Lib.hid (show RdX chgE w12 (fun q => anyB q ∧ (Value.slice none 0 0).ownBlock ≠ some q) (some ⟨bc, oc, none⟩) (lc.take k) from ((C12.out.chgE.at.2.1).take k).mono fun _ _ _ => ⟨trivial, fun e => by cases e⟩)
  have HKT := Lib.hid (show k = (lc.take k).length by rw [List.length_take, Nat.min_eq_left (Nat.le_of_lt hkl)])
  have HKD := Lib.hid (show lc.length - (k + 1) = (lc.drop (k + 1)).length by rw [List.length_drop])
  have HA9 := Lib.hid hA9
  have HKL := Lib.hid hkl
  have HCM2 := Lib.hid hcm
  clear hA9 hkl hk hcm hcc
  go_wp2_with (first | ((with_reducible show wpList _ _ _ _ _ w12); at_builtin; go_loud (refine wpList_append_x (E := chgE) rfl _ _ rfl w12.heap.size anyB (.slice none 0 0) [] rfl (OwnX.nil _ _ _) (some ⟨bc, oc, none⟩) k cc rfl (lc.take k) HKT.out RX.out (fun e => by cases e) (fun p e => by cases e; rfl) (by clear hrem hne hwr; have := HKL.out; have := HL120.out; simp; omega) (Nat.le_refl _) trivial ?_; intro v5 u5 ho5 hg5; go_frame; have O5 := Lib.hid ho5; have G5 := Lib.hid hg5; have RY := Lib.hid (rest_turn HA9.out.2 ho5 hg5); clear ho5 hg5)) | ((with_reducible show wpList _ _ _ _ _ u5); at_builtin; go_loud (refine wpList_append_x (E := chgE) rfl _ _ rfl w12.heap.size anyB v5 ([] ++ lc.take k) rfl O5.out (some A9) (lc.length - (k + 1)) (cc - (k + 1)) rfl (lc.drop (k + 1)) HKD.out RY.out (fun e => by cases e) (fun p e => by cases e; exact HA9.out.1) (by clear hrem hne hwr; have := HKL.out; have := HL120.out; simp; omega) G5.out.size trivial ?_; intro v6 u6 ho6 hg6; go_frame; have O6 := Lib.hid ho6; have G6 := Lib.hid hg6; clear ho6 hg6)))
  clear hrem hne hwr
  have hnd := between_needed HP0.out HP1.out (k := k) (by rw [← HLC.out]; exact HKL.out)
  rw [← HLC.out] at hnd
  have HND1 := Lib.hid hnd.1
  have HND2 := Lib.hid hnd.2
  clear hnd
  have BU := Lib.hid (Turn.of_grown G5.out)
  have BB := Lib.hid (((Below.refl _ _).grown G5.out (Nat.le_refl _) (fun k e => by cases e)).grown G6.out G5.out.size (fun k e => (O5.out.lt k e).1))
  have T13 := Lib.hid (T12.out.below BB.out)
  have U13 := Lib.hid (U12.out.below BB.out)
  have B13 := Lib.hid (below_chain B12.out BB.out)
  have O7 := Lib.hid (show OwnX chgE u6 w12.heap.size anyB v6 (lc.take k ++ lc.drop (k + 1)) by have := O6.out; rwa [List.nil_append] at this)
  have HLN := Lib.hid (show (lc.take k ++ lc.drop (k + 1)).length ≤ 120 by have := HL120.out; rw [List.length_append, List.length_take, List.length_drop]; omega)
  have HSL := Lib.hid (smallC_of HND1.out (by have := HLN.out; omega))
  have HAL := Lib.hid (show (applyP l0 (lc.take k ++ lc.drop (k + 1))).length ≤ 180 by have := apply_len (lc.take k ++ lc.drop (k + 1)) l0; have := HLN.out; omega)
  clear BU T12 U12 B12 O5 O6 G5 G6 BB RX RY C12
  refine ((HK.out.apply _ _ _ _ _ _ _ HM0.out HSL.out (by omega) (by have := HLN.out; omega) T13.out O7.out.ls).mono fun _ _ h => h.yes (by rw [HND1.out, HP0.out]; rfl)).mono ?_
  rintro e w14 ⟨Ae, ce, rfl, hp, hb⟩
  have E14 := Lib.hid hp
  clear hp
  have T14 := Lib.hid (T13.out.below hb)
  have U14 := Lib.hid (U13.out.below hb)
  have B14 := Lib.hid (below_chain B13.out hb)
  clear hb T13 U13 B13
  have hrs := Rows_any (applyP l0 (lc.take k ++ lc.drop (k + 1))) l1 Ae A1 ce c1 _ _ w14 (by have := HAL.out; omega) (by have := HAL.out; omega) E14.out.rowE.at.2.1 U14.out.at.2.1
  rw [decide_eq_false HND2.out] at hrs
  go_wp2_with fail
  refine hrs.mono ?_
  clear hrs
  rintro e w15 ⟨rfl, hb⟩
  have T15 := Lib.hid (T14.out.below hb)
  have U15 := Lib.hid (U14.out.below hb)
  have B15 := Lib.hid (below_chain B14.out hb)
  have E15 := Lib.hid (E14.out.below hb)
  clear hb T14 U14 B14 E14
  clear E15
  go_wp2_with fail
  refine (lives7_any HK.out _).mono ?_
  rintro e w90 ⟨rfl, hb⟩
  have B90 := Lib.hid (below_chain B15.out hb)
  clear hb B15
  go_wp2_with fail
  go_ret
  exact ⟨rfl, B90.out⟩

end Go.Proofs.Ytiemphfikfigdaa
