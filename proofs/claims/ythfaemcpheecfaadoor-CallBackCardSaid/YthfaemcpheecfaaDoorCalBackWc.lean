/- CallBack: the walk. -/
import Derived.Test.YthfaemcpheecfaaDoorCalBackW
import Derived.Test.YthfaemcpheecfaaDoorCalR3
import Derived.Test.YthfaemcpheecfaaDoorTblK
namespace Go.Proofs.YthfaemcpheecfaaDoor
open Go.RowKit Go.Shelf
set_option linter.unusedVariables false
set_option maxRecDepth 100000
set_option linter.unusedSimpArgs false

set_option maxHeartbeats 16000000 in
theorem back10_neg1 (c : CallX) (u : Value) (l1 : List UInt8) (A1 : Option Addr) (c1 : Nat) (l2 : List UInt8) (A2 : Option Addr) (c2 : Nat) (cut : Int) (w : World) (hT : Tabs w) (hc : CalV w (· < w.heap.size) c u)
    (hl1 : l1.length ≤ 140737488351232) (rd1 : Rd w A1 l1) (hlc1 : l1.length ≤ c1) (hcm1 : c1 ≤ maxLen) (nil1 : A1 = none → l1 = [] ∧ c1 = 0)
    (hl2 : l2.length ≤ 140737488351232) (rd2 : Rd w A2 l2) (hlc2 : l2.length ≤ c2) (hcm2 : c2 ≤ maxLen) (nil2 : A2 = none → l2 = [] ∧ c2 = 0) (lo3 : -9223372036854775808 ≤ cut) (hi3 : cut ≤ 9223372036854775807) (hm : mayX c = true) (he2 : l2 = []) (hcut : ¬ 0 ≤ cut) :
    Calls Tryd.prog 4 #[.agg (calCells c u).toArray, .slice A1 l1.length c1, .slice A2 l2.length c2, .int .i64 cut] w fun e w' => e = .returned (.bool true) ∧ Below w.heap.size w w' := by
  have hv1 : BsV w (· < w.heap.size) (.slice A1 l1.length c1) l1 := ⟨A1, c1, rfl, rd1.f fun b off e hlt => hlt, nil1, hlc1, hcm1⟩
  have hv2 : BsV w (· < w.heap.size) (.slice A2 l2.length c2) l2 := ⟨A2, c2, rfl, rd2.f fun b off e hlt => hlt, nil2, hlc2, hcm2⟩
  obtain ⟨A, cp, rfl, -⟩ := id hc.1
  have HV1 := Lib.hid hv1
  have HV2 := Lib.hid hv2
  have HCV := Lib.hid hc
  have HT := Lib.hid hT
  have HL1 := Lib.hid hl1
  have HL2 := Lib.hid hl2
  have hN1 : l1.length ≤ 9223372036854775807 := by omega
  have hN2 : l2.length ≤ 9223372036854775807 := by omega
  clear hv1 hv2 hc hT hl1 rd1 hlc1 hcm1 nil1 hl2 rd2 hlc2 hcm2 nil2
  obtain ⟨hkx, hfx⟩ := mayX_fit hm
  have hfull : getX (putX c) = (c, 0) := by have h := put_get HCV.out.2 hm [] (by rw [List.append_nil]; have := putX_small hm; omega); rwa [List.append_nil, if_pos rfl] at h
  have hcutx := fun n (hn : n < (putX c).length) => put_cut HCV.out.2 hm n hn
  have hmore : ((getX (putX c ++ l2)).2 == 0) = (l2.length == 0) := by
    by_cases h4 : 4096 < (putX c ++ l2).length
    · have e : getX (putX c ++ l2) = (calZero, 3) := by unfold getX; rw [if_pos h4]
      rw [e, show (l2.length == 0) = false by rw [beq_eq_false_iff_ne]; rw [List.length_append] at h4; have := putX_small hm; omega]
      rfl
    · rw [put_get HCV.out.2 hm l2 h4]
      by_cases h0 : l2 = []
      · rw [if_pos h0, h0]; rfl
      · rw [if_neg h0, show (l2.length == 0) = false by rw [beq_eq_false_iff_ne]; exact fun e => h0 (List.eq_nil_of_length_eq_zero e)]; rfl
  have hsm := putX_small hm
  obtain ⟨n, hn⟩ : ∃ n, (putX c).length = n := ⟨_, rfl⟩
  rw [hn] at hsm
  have HN := Lib.hid (And.intro hsm hn)
  have HFULL := Lib.hid hfull
  have HCUTX := Lib.hid hcutx
  have HMORE := Lib.hid hmore
  have HM := Lib.hid hm
  clear hkx hfx hfull hcutx hmore hsm hn hm
  have HE2 := Lib.hid he2
  clear he2
  have h0' : decide (0 ≤ cut) = false := decide_eq_false hcut
  have h0 : cut < 0 := by omega
  clear hcut
  go_enter Tryd.func4, Tryd.ntmps4
  go_wp2_with (first
    | ((with_reducible show wpList _ _ _ _ _ w); refine wpList_boxS rfl 28 _ rfl (calCells c (.slice A c.data.length cp)) rfl ?_; intro g1 w1 hk1 hb1 hg1; go_frame; have C1 := Lib.hid hk1; have B1 := Lib.hid hb1; clear hk1 hb1 hg1)
    | ((with_reducible show wpList _ _ _ _ _ w1); refine wpList_loadS rfl 28 _ rfl g1 rfl (calCells c (.slice A c.data.length cp)) C1.out _ Tryd.underlying28 rfl infoCall ?_; go_frame)
    | fail)
  have K0_1 := Lib.hid (B1.out)
  refine (PutC_yes (HCV.out.below K0_1.out) (fun k hk => Nat.lt_of_lt_of_le hk (K0_1.out).size) (HT.out.below K0_1.out) HM.out).mono ?_
  rw [HN.out.2]
  rintro e w2 ⟨Ax, cx, rfl, hx, hb⟩
  have K0_2 := Lib.hid (below_chain K0_1.out hb)
  have K1_2 := Lib.hid (hb)
  have HX := Lib.hid hx
  have hcap : n ≤ cx ∧ cx ≤ maxLen := by obtain ⟨A', c', e, -, -, e2, e3⟩ := hx; cases e; rw [HN.out.2] at e2; exact ⟨e2, e3⟩
  have HCAP := Lib.hid hcap
  clear hx hb hcap
  obtain ⟨q0, q1, q2, q3, q4, q5, q6, q7, q8, q9, q10, q11, q12⟩ := Cs.cal (C1.out.below K1_2.out C1.out.lt)
  have HMC := Lib.hid (May_v (HCV.out.below K0_2.out) (HT.out.below K0_2.out))
  rw [HM.out] at HMC
  go_wp2_with fail
  refine HMC.out.mono ?_
  rintro e w3 ⟨rfl, hb⟩
  have K0_3 := Lib.hid (below_chain K0_2.out hb)
  have K1_3 := Lib.hid (below_chain K1_2.out hb)
  have KX_3 := Lib.hid (hb)
  clear hb
  clear q0 q1 q2 q3 q4 q5 q6 q7 q8 q9 q10 q11 q12
  have hxb := HX.out.below KX_3.out
  have hgx := Get_bn HN.out.2 hxb (by have := HN.out.1; omega) (HT.out.below K0_3.out) HFULL.out
  have HGX := Lib.hid hgx
  clear hgx hxb
  go_wp2_with fail
  refine HGX.out.mono ?_
  rintro e w4 ⟨Am, cm, rfl, hvm, hb⟩
  have K0_4 := Lib.hid (below_chain K0_3.out hb)
  have K1_4 := Lib.hid (below_chain K1_3.out hb)
  have KX_4 := Lib.hid (below_chain KX_3.out hb)
  have HVM := Lib.hid hvm
  clear hvm hb
  go_wp2_with (first
    | ((with_reducible show wpList _ _ _ _ _ w4); refine wpList_allocS rfl 28 rfl (calCells calZero (.slice none 0 0)) callZero ?_; intro gM waM hk4 hb4 hg4; go_frame; have CA := Lib.hid hk4; have BA := Lib.hid hb4; have GA := Lib.hid hg4; clear hk4 hb4 hg4)
    | ((with_reducible show wpList _ _ _ _ _ waM); refine wpList_storeS rfl 28 _ _ rfl gM rfl (calCells c (.slice Am c.data.length cm)) (calCells calZero (.slice none 0 0)) rfl CA.out rfl (cal_one rfl) infoCall ?_; intro wbM hk5 ht5; go_frame; have CM := Lib.hid hk5; have BB := Lib.hid (BA.out.trans (ht5.below BA.out.size fun k e => by have := GA.out; omega)); clear hk5 ht5 CA BA GA; have hc1q := C1.out.below (below_chain K1_4.out BB.out) C1.out.lt; obtain ⟨q0, q1, q2, q3, q4, q5, q6, q7, q8, q9, q10, q11, q12⟩ := Cs.cal hc1q; obtain ⟨p0, p1, p2, p3, p4, p5, p6, p7, p8, p9, p10, p11, p12⟩ := Cs.cal CM.out; clear hc1q)
    | fail)
  have K0_5 := Lib.hid (below_chain K0_4.out BB.out)
  have K1_5 := Lib.hid (below_chain K1_4.out BB.out)
  have KX_5 := Lib.hid (below_chain KX_4.out BB.out)
  have KV_5 := Lib.hid (BB.out)
  clear BB
  have HS1 := Lib.hid (Same_v (HVM.out.below KV_5.out) (HCV.out.below K0_5.out))
  rw [sameX_self] at HS1
  refine HS1.out.mono ?_
  rintro e w5 ⟨rfl, hb⟩
  have K0_6 := Lib.hid (below_chain K0_5.out hb)
  have K1_6 := Lib.hid (below_chain K1_5.out hb)
  have KX_6 := Lib.hid (below_chain KX_5.out hb)
  have KV_6 := Lib.hid (below_chain KV_5.out hb)
  have KM_6 := Lib.hid (hb)
  clear hb
  clear p0 p1 p2 p3 p4 p5 p6 p7 p8 p9 p10 p11 p12 q0 q1 q2 q3 q4 q5 q6 q7 q8 q9 q10 q11 q12
  obtain ⟨p0, p1, p2, p3, p4, p5, p6, p7, p8, p9, p10, p11, p12⟩ := Cs.cal (CM.out.below KM_6.out CM.out.lt)
  obtain ⟨q0, q1, q2, q3, q4, q5, q6, q7, q8, q9, q10, q11, q12⟩ := Cs.cal (C1.out.below K1_6.out C1.out.lt)
  have HS2 := Lib.hid (SameR_v (HVM.out.below KV_6.out) (HCV.out.below K0_6.out))
  rw [sameX_self] at HS2
  go_wp2_with fail
  refine HS2.out.mono ?_
  rintro e w6 ⟨rfl, hb⟩
  have K0_7 := Lib.hid (below_chain K0_6.out hb)
  have K1_7 := Lib.hid (below_chain K1_6.out hb)
  have KX_7 := Lib.hid (below_chain KX_6.out hb)
  have KV_7 := Lib.hid (below_chain KV_6.out hb)
  have KM_7 := Lib.hid (below_chain KM_6.out hb)
  clear hb
  clear p0 p1 p2 p3 p4 p5 p6 p7 p8 p9 p10 p11 p12 q0 q1 q2 q3 q4 q5 q6 q7 q8 q9 q10 q11 q12
  have HXC := Lib.hid (HX.out.below KX_7.out)
  have hrx := HXC.out.rdC
  have hnx : Ax = none → putX c = [] ∧ cx = 0 := by obtain ⟨A', c', e, -, e2, -⟩ := HXC.out; injection e with ea en ec; subst ea; subst ec; exact e2
  have hcp := Copy_ty (putX c) Ax cx w6 (by have := HN.out.1; have := HN.out.2; omega) hrx hnx
  rw [HN.out.2] at hcp
  go_wp2_with fail
  refine hcp.mono ?_
  clear hcp hrx hnx HXC
  rintro e wc ⟨vc, rfl, hoc, -, hb⟩
  have K0_8 := Lib.hid (below_chain K0_7.out hb)
  have K1_8 := Lib.hid (below_chain K1_7.out hb)
  have KX_8 := Lib.hid (below_chain KX_7.out hb)
  have KV_8 := Lib.hid (below_chain KV_7.out hb)
  have KM_8 := Lib.hid (below_chain KM_7.out hb)
  have KC_8 := Lib.hid (hb)
  have HBC := Lib.hid hb
  obtain ⟨Ac, Nc, cc, rfl, -⟩ := own_slice hoc
  have HOC := Lib.hid hoc
  have hrd2 := (HV2.out.below K0_8.out).rdC
  have hni2 : A2 = none → l2 = [] ∧ c2 = 0 := by obtain ⟨A', c', e, -, e2, -⟩ := HV2.out; cases e; exact e2
  have HR2 := Lib.hid hrd2
  have HNI2 := Lib.hid hni2
  clear hoc hb hrd2 hni2
  go_wp2_with (at_builtin; refine append_to rfl (.tmp 71) (.tmp 72) rfl w6.heap.size _ _ (putX c) rfl HOC.out A2 l2 _ c2 rfl rfl HR2.out HNI2.out (by have := HL2.out; have := HN.out.1; have := HN.out.2; omega) HBC.out.size ?_; intro vd wd ho hg hto; obtain ⟨Ad, Nd, cd, rfl, hNd⟩ := own_slice ho; have HOD := Lib.hid ho; have BD := Lib.hid (below_own HBC.out hg HOC.out (Nat.le_refl _) HBC.out.size); have HND := Lib.hid hNd; clear ho hg hto hNd)
  have K0_59 := Lib.hid (below_chain K0_7.out BD.out)
  have K1_59 := Lib.hid (below_chain K1_7.out BD.out)
  have KX_59 := Lib.hid (below_chain KX_7.out BD.out)
  have KV_59 := Lib.hid (below_chain KV_7.out BD.out)
  have KM_59 := Lib.hid (below_chain KM_7.out BD.out)
  have KC_59 := Lib.hid (BD.out)
  have hnd : Nd = (putX c ++ l2).length := by rw [List.length_append, HN.out.2]; exact HND.out
  have hyd : BsV wd (w6.heap.size ≤ ·) (.slice Ad Nd cd) (putX c ++ l2) := BsV.own (by have := HOD.out; rw [← HN.out.2, ← List.length_append] at this; exact this)
  subst hnd
  obtain ⟨z, hz⟩ : ∃ z, getX (putX c ++ l2) = z := ⟨_, rfl⟩
  obtain ⟨zc, ze⟩ := z
  have hze : (ze == 0) = (l2.length == 0) := by rw [show ze = (getX (putX c ++ l2)).2 by rw [hz]]; exact HMORE.out
  have hgt := Get_b hyd (by rw [List.length_append]; have := HL2.out; have := HN.out.1; have := HN.out.2; omega) (HT.out.below K0_59.out) hz
  clear hyd hz
  generalize (putX c ++ l2).length = ny at *
  have HGT := Lib.hid hgt
  clear hgt
  have hl0 : l2.length = 0 := by rw [HE2.out]; rfl
  rw [hl0] at hze
  have hz0 : ze = 0 := by simpa using hze
  subst hz0
  clear hze
  go_wp2_with fail
  refine HGT.out.mono ?_
  rintro e we ⟨Ae, ce, rfl, hve, hb⟩
  have K0_10 := Lib.hid (below_chain K0_59.out hb)
  have K1_10 := Lib.hid (below_chain K1_59.out hb)
  have KX_10 := Lib.hid (below_chain KX_59.out hb)
  have KV_10 := Lib.hid (below_chain KV_59.out hb)
  have KM_10 := Lib.hid (below_chain KM_59.out hb)
  have KC_10 := Lib.hid (below_chain KC_59.out hb)
  clear hb hve
  go_wp2_with (first
    | ((with_reducible show wpList _ _ _ _ _ we); refine wpList_allocS rfl 28 rfl (calCells calZero (.slice none 0 0)) callZero ?_; intro gE waE hk4 hb4 hg4; go_frame; have CA := Lib.hid hk4; have BA := Lib.hid hb4; have GA := Lib.hid hg4; clear hk4 hb4 hg4)
    | ((with_reducible show wpList _ _ _ _ _ waE); refine wpList_storeS rfl 28 _ _ rfl gE rfl (calCells zc (.slice Ae zc.data.length ce)) (calCells calZero (.slice none 0 0)) rfl CA.out rfl (cal_one rfl) infoCall ?_; intro wbE hk5 ht5; go_frame; have CE := Lib.hid hk5; have BB := Lib.hid (BA.out.trans (ht5.below BA.out.size fun k e => by have := GA.out; omega)); clear hk5 ht5 CA BA GA)
    | fail)
  have K0_11 := Lib.hid (below_chain K0_10.out BB.out)
  have K1_11 := Lib.hid (below_chain K1_10.out BB.out)
  have KX_11 := Lib.hid (below_chain KX_10.out BB.out)
  have KV_11 := Lib.hid (below_chain KV_10.out BB.out)
  have KM_11 := Lib.hid (below_chain KM_10.out BB.out)
  have KC_11 := Lib.hid (below_chain KC_10.out BB.out)
  clear BB
  rcases hb2 : (getX l1).2 == 0 with _ | _
  · skip
    have HB2 := Lib.hid hb2
    clear hb2
    have hz1 : (getX l1).1 = calZero := get_zero (by have := HB2.out; simpa using this)
    obtain ⟨er, her⟩ : ∃ er, (getX l1).2 = er := ⟨_, rfl⟩
    have hne : (er != 0) = true := by rw [← her, bne, HB2.out]; rfl
    have heq : (er == 0) = false := by rw [← her]; exact HB2.out
    have hx1 : getX l1 = (calZero, er) := Prod.ext hz1 her
    have HX1 := Lib.hid hx1
    clear hz1 her hx1
    go_wp2_with fail
    refine (Get_b (HV1.out.below K0_11.out) (by have := HL1.out; omega) (HT.out.below K0_11.out) HX1.out).mono ?_
    rintro e wq ⟨Aq, cq, rfl, hvq, hb⟩
    have K0_12 := Lib.hid (below_chain K0_11.out hb)
    have K1_12 := Lib.hid (below_chain K1_11.out hb)
    have KX_12 := Lib.hid (below_chain KX_11.out hb)
    have KV_12 := Lib.hid (below_chain KV_11.out hb)
    have KM_12 := Lib.hid (below_chain KM_11.out hb)
    have KC_12 := Lib.hid (below_chain KC_11.out hb)
    have HVQ := Lib.hid hvq
    clear hvq hb
    go_wp2_with (first
      | ((with_reducible show wpList _ _ _ _ _ wq); refine wpList_allocS rfl 28 rfl (calCells calZero (.slice none 0 0)) callZero ?_; intro gQ waQ hk4 hb4 hg4; go_frame; have CA := Lib.hid hk4; have BA := Lib.hid hb4; have GA := Lib.hid hg4; clear hk4 hb4 hg4)
      | ((with_reducible show wpList _ _ _ _ _ waQ); refine wpList_storeS rfl 28 _ _ rfl gQ rfl (calCells calZero (.slice Aq calZero.data.length cq)) (calCells calZero (.slice none 0 0)) rfl CA.out rfl (cal_one rfl) infoCall ?_; intro wbQ hk5 ht5; go_frame; have CQ := Lib.hid hk5; have BB := Lib.hid (BA.out.trans (ht5.below BA.out.size fun k e => by have := GA.out; omega)); clear hk5 ht5 CA BA GA; obtain ⟨p0, p1, p2, p3, p4, p5, p6, p7, p8, p9, p10, p11, p12⟩ := Cs.cal CQ.out)
      | fail)
    have K0_13 := Lib.hid (below_chain K0_12.out BB.out)
    have K1_13 := Lib.hid (below_chain K1_12.out BB.out)
    have KX_13 := Lib.hid (below_chain KX_12.out BB.out)
    have KV_13 := Lib.hid (below_chain KV_12.out BB.out)
    have KM_13 := Lib.hid (below_chain KM_12.out BB.out)
    have KC_13 := Lib.hid (below_chain KC_12.out BB.out)
    have KQ_13 := Lib.hid (BB.out)
    clear BB
    refine (SameR_v (HVQ.out.below KQ_13.out) (calZ_v _ (fun _ => False))).mono ?_
    rw [sameX_self]
    rintro e wr ⟨rfl, hb⟩
    have K0_14 := Lib.hid (below_chain K0_13.out hb)
    have K1_14 := Lib.hid (below_chain K1_13.out hb)
    have KX_14 := Lib.hid (below_chain KX_13.out hb)
    have KV_14 := Lib.hid (below_chain KV_13.out hb)
    have KM_14 := Lib.hid (below_chain KM_13.out hb)
    have KC_14 := Lib.hid (below_chain KC_13.out hb)
    have KQ_14 := Lib.hid (below_chain KQ_13.out hb)
    clear hb p0 p1 p2 p3 p4 p5 p6 p7 p8 p9 p10 p11 p12
    go_wp2_with fail
    refine (lives10_v _ (HT.out.below K0_14.out)).mono ?_
    rintro e ws ⟨rfl, hb⟩
    have K0_15 := Lib.hid (below_chain K0_14.out hb)
    have K1_15 := Lib.hid (below_chain K1_14.out hb)
    have KX_15 := Lib.hid (below_chain KX_14.out hb)
    have KV_15 := Lib.hid (below_chain KV_14.out hb)
    have KM_15 := Lib.hid (below_chain KM_14.out hb)
    have KC_15 := Lib.hid (below_chain KC_14.out hb)
    have KQ_15 := Lib.hid (below_chain KQ_14.out hb)
    clear hb
    go_wp2_with fail
    go_ret
    exact ⟨rfl, K0_15.out⟩
  · skip
    have HB2 := Lib.hid hb2
    clear hb2
    have he1 : (getX l1).2 = 0 := by have := HB2.out; simpa using this
    obtain ⟨hm1, hp1⟩ := call_back10 he1
    obtain ⟨m1, hm1d⟩ : ∃ m, (getX l1).1 = m := ⟨_, rfl⟩
    rw [hm1d] at hm1 hp1
    have hx1 : getX l1 = (m1, 0) := Prod.ext hm1d he1
    have HX1 := Lib.hid hx1
    have HM1 := Lib.hid hm1
    have HP1 := Lib.hid hp1
    clear he1 hm1d hx1 hm1 hp1
    go_wp2_with fail
    refine (Get_b (HV1.out.below K0_11.out) (by have := HL1.out; omega) (HT.out.below K0_11.out) HX1.out).mono ?_
    rintro e wq ⟨Aq, cq, rfl, hvq, hb⟩
    have K0_12 := Lib.hid (below_chain K0_11.out hb)
    have K1_12 := Lib.hid (below_chain K1_11.out hb)
    have KX_12 := Lib.hid (below_chain KX_11.out hb)
    have KV_12 := Lib.hid (below_chain KV_11.out hb)
    have KM_12 := Lib.hid (below_chain KM_11.out hb)
    have KC_12 := Lib.hid (below_chain KC_11.out hb)
    have HVQ := Lib.hid hvq
    clear hvq hb
    go_wp2_with (first
      | ((with_reducible show wpList _ _ _ _ _ wq); refine wpList_allocS rfl 28 rfl (calCells calZero (.slice none 0 0)) callZero ?_; intro gQ waQ hk4 hb4 hg4; go_frame; have CA := Lib.hid hk4; have BA := Lib.hid hb4; have GA := Lib.hid hg4; clear hk4 hb4 hg4)
      | ((with_reducible show wpList _ _ _ _ _ waQ); refine wpList_storeS rfl 28 _ _ rfl gQ rfl (calCells m1 (.slice Aq m1.data.length cq)) (calCells calZero (.slice none 0 0)) rfl CA.out rfl (cal_one rfl) infoCall ?_; intro wbQ hk5 ht5; go_frame; have CQ := Lib.hid hk5; have BB := Lib.hid (BA.out.trans (ht5.below BA.out.size fun k e => by have := GA.out; omega)); clear hk5 ht5 CA BA GA; obtain ⟨p0, p1, p2, p3, p4, p5, p6, p7, p8, p9, p10, p11, p12⟩ := Cs.cal CQ.out)
      | fail)
    have K0_13 := Lib.hid (below_chain K0_12.out BB.out)
    have K1_13 := Lib.hid (below_chain K1_12.out BB.out)
    have KX_13 := Lib.hid (below_chain KX_12.out BB.out)
    have KV_13 := Lib.hid (below_chain KV_12.out BB.out)
    have KM_13 := Lib.hid (below_chain KM_12.out BB.out)
    have KC_13 := Lib.hid (below_chain KC_12.out BB.out)
    have KQ_13 := Lib.hid (BB.out)
    clear BB
    have hq0 : CalV wq (· < wq.heap.size) m1 (.slice Aq m1.data.length cq) := ⟨HVQ.out.1.tightC.mono fun k _ h => h.2, HVQ.out.2⟩
    have HQ0 := Lib.hid hq0
    clear hq0
    refine (PutC_yes (HQ0.out.below KQ_13.out) (fun k hk => Nat.lt_of_lt_of_le hk (KQ_13.out).size) (HT.out.below K0_13.out) HM1.out).mono ?_
    rintro e wr ⟨Ar, cr, rfl, hvr, hb⟩
    have K0_14 := Lib.hid (below_chain K0_13.out hb)
    have K1_14 := Lib.hid (below_chain K1_13.out hb)
    have KX_14 := Lib.hid (below_chain KX_13.out hb)
    have KV_14 := Lib.hid (below_chain KV_13.out hb)
    have KM_14 := Lib.hid (below_chain KM_13.out hb)
    have KC_14 := Lib.hid (below_chain KC_13.out hb)
    have KQ_14 := Lib.hid (below_chain KQ_13.out hb)
    have HVR := Lib.hid hvr
    have HBR := Lib.hid hb
    clear hvr hb p0 p1 p2 p3 p4 p5 p6 p7 p8 p9 p10 p11 p12
    obtain ⟨p0, p1, p2, p3, p4, p5, p6, p7, p8, p9, p10, p11, p12⟩ := Cs.cal (CQ.out.below HBR.out CQ.out.lt)
    have HSB := Lib.hid (Same_any Ar A1 (putX m1) l1 cr c1 wr HVR.out.rdC (HV1.out.below K0_14.out).rdC)
    rw [HP1.out] at HSB ⊢
    rw [show (l1 == l1) = true from beq_self_eq_true l1] at HSB
    go_wp2_with fail
    refine HSB.out.mono ?_
    rintro e wt ⟨rfl, rfl⟩
    have HMY := Lib.hid (May_v (HQ0.out.below KQ_14.out) (HT.out.below K0_14.out))
    rw [HM1.out] at HMY
    go_wp2_with fail
    refine HMY.out.mono ?_
    rintro e wu ⟨rfl, hb⟩
    have K0_15 := Lib.hid (below_chain K0_14.out hb)
    have K1_15 := Lib.hid (below_chain K1_14.out hb)
    have KX_15 := Lib.hid (below_chain KX_14.out hb)
    have KV_15 := Lib.hid (below_chain KV_14.out hb)
    have KM_15 := Lib.hid (below_chain KM_14.out hb)
    have KC_15 := Lib.hid (below_chain KC_14.out hb)
    have KQ_15 := Lib.hid (below_chain KQ_14.out hb)
    clear hb p0 p1 p2 p3 p4 p5 p6 p7 p8 p9 p10 p11 p12
    go_wp2_with fail
    refine (lives10_v _ (HT.out.below K0_15.out)).mono ?_
    rintro e ws ⟨rfl, hb⟩
    have K0_16 := Lib.hid (below_chain K0_15.out hb)
    have K1_16 := Lib.hid (below_chain K1_15.out hb)
    have KX_16 := Lib.hid (below_chain KX_15.out hb)
    have KV_16 := Lib.hid (below_chain KV_15.out hb)
    have KM_16 := Lib.hid (below_chain KM_15.out hb)
    have KC_16 := Lib.hid (below_chain KC_15.out hb)
    have KQ_16 := Lib.hid (below_chain KQ_15.out hb)
    clear hb
    go_wp2_with fail
    go_ret
    exact ⟨rfl, K0_16.out⟩
set_option maxHeartbeats 16000000 in
theorem back10_neg0 (c : CallX) (u : Value) (l1 : List UInt8) (A1 : Option Addr) (c1 : Nat) (l2 : List UInt8) (A2 : Option Addr) (c2 : Nat) (cut : Int) (w : World) (hT : Tabs w) (hc : CalV w (· < w.heap.size) c u)
    (hl1 : l1.length ≤ 140737488351232) (rd1 : Rd w A1 l1) (hlc1 : l1.length ≤ c1) (hcm1 : c1 ≤ maxLen) (nil1 : A1 = none → l1 = [] ∧ c1 = 0)
    (hl2 : l2.length ≤ 140737488351232) (rd2 : Rd w A2 l2) (hlc2 : l2.length ≤ c2) (hcm2 : c2 ≤ maxLen) (nil2 : A2 = none → l2 = [] ∧ c2 = 0) (lo3 : -9223372036854775808 ≤ cut) (hi3 : cut ≤ 9223372036854775807) (hm : mayX c = true) (he2 : l2 ≠ []) (hcut : ¬ 0 ≤ cut) :
    Calls Tryd.prog 4 #[.agg (calCells c u).toArray, .slice A1 l1.length c1, .slice A2 l2.length c2, .int .i64 cut] w fun e w' => e = .returned (.bool true) ∧ Below w.heap.size w w' := by
  have hv1 : BsV w (· < w.heap.size) (.slice A1 l1.length c1) l1 := ⟨A1, c1, rfl, rd1.f fun b off e hlt => hlt, nil1, hlc1, hcm1⟩
  have hv2 : BsV w (· < w.heap.size) (.slice A2 l2.length c2) l2 := ⟨A2, c2, rfl, rd2.f fun b off e hlt => hlt, nil2, hlc2, hcm2⟩
  obtain ⟨A, cp, rfl, -⟩ := id hc.1
  have HV1 := Lib.hid hv1
  have HV2 := Lib.hid hv2
  have HCV := Lib.hid hc
  have HT := Lib.hid hT
  have HL1 := Lib.hid hl1
  have HL2 := Lib.hid hl2
  have hN1 : l1.length ≤ 9223372036854775807 := by omega
  have hN2 : l2.length ≤ 9223372036854775807 := by omega
  clear hv1 hv2 hc hT hl1 rd1 hlc1 hcm1 nil1 hl2 rd2 hlc2 hcm2 nil2
  obtain ⟨hkx, hfx⟩ := mayX_fit hm
  have hfull : getX (putX c) = (c, 0) := by have h := put_get HCV.out.2 hm [] (by rw [List.append_nil]; have := putX_small hm; omega); rwa [List.append_nil, if_pos rfl] at h
  have hcutx := fun n (hn : n < (putX c).length) => put_cut HCV.out.2 hm n hn
  have hmore : ((getX (putX c ++ l2)).2 == 0) = (l2.length == 0) := by
    by_cases h4 : 4096 < (putX c ++ l2).length
    · have e : getX (putX c ++ l2) = (calZero, 3) := by unfold getX; rw [if_pos h4]
      rw [e, show (l2.length == 0) = false by rw [beq_eq_false_iff_ne]; rw [List.length_append] at h4; have := putX_small hm; omega]
      rfl
    · rw [put_get HCV.out.2 hm l2 h4]
      by_cases h0 : l2 = []
      · rw [if_pos h0, h0]; rfl
      · rw [if_neg h0, show (l2.length == 0) = false by rw [beq_eq_false_iff_ne]; exact fun e => h0 (List.eq_nil_of_length_eq_zero e)]; rfl
  have hsm := putX_small hm
  obtain ⟨n, hn⟩ : ∃ n, (putX c).length = n := ⟨_, rfl⟩
  rw [hn] at hsm
  have HN := Lib.hid (And.intro hsm hn)
  have HFULL := Lib.hid hfull
  have HCUTX := Lib.hid hcutx
  have HMORE := Lib.hid hmore
  have HM := Lib.hid hm
  clear hkx hfx hfull hcutx hmore hsm hn hm
  have HE2 := Lib.hid he2
  clear he2
  have h0' : decide (0 ≤ cut) = false := decide_eq_false hcut
  have h0 : cut < 0 := by omega
  clear hcut
  go_enter Tryd.func4, Tryd.ntmps4
  go_wp2_with (first
    | ((with_reducible show wpList _ _ _ _ _ w); refine wpList_boxS rfl 28 _ rfl (calCells c (.slice A c.data.length cp)) rfl ?_; intro g1 w1 hk1 hb1 hg1; go_frame; have C1 := Lib.hid hk1; have B1 := Lib.hid hb1; clear hk1 hb1 hg1)
    | ((with_reducible show wpList _ _ _ _ _ w1); refine wpList_loadS rfl 28 _ rfl g1 rfl (calCells c (.slice A c.data.length cp)) C1.out _ Tryd.underlying28 rfl infoCall ?_; go_frame)
    | fail)
  have K0_1 := Lib.hid (B1.out)
  refine (PutC_yes (HCV.out.below K0_1.out) (fun k hk => Nat.lt_of_lt_of_le hk (K0_1.out).size) (HT.out.below K0_1.out) HM.out).mono ?_
  rw [HN.out.2]
  rintro e w2 ⟨Ax, cx, rfl, hx, hb⟩
  have K0_2 := Lib.hid (below_chain K0_1.out hb)
  have K1_2 := Lib.hid (hb)
  have HX := Lib.hid hx
  have hcap : n ≤ cx ∧ cx ≤ maxLen := by obtain ⟨A', c', e, -, -, e2, e3⟩ := hx; cases e; rw [HN.out.2] at e2; exact ⟨e2, e3⟩
  have HCAP := Lib.hid hcap
  clear hx hb hcap
  obtain ⟨q0, q1, q2, q3, q4, q5, q6, q7, q8, q9, q10, q11, q12⟩ := Cs.cal (C1.out.below K1_2.out C1.out.lt)
  have HMC := Lib.hid (May_v (HCV.out.below K0_2.out) (HT.out.below K0_2.out))
  rw [HM.out] at HMC
  go_wp2_with fail
  refine HMC.out.mono ?_
  rintro e w3 ⟨rfl, hb⟩
  have K0_3 := Lib.hid (below_chain K0_2.out hb)
  have K1_3 := Lib.hid (below_chain K1_2.out hb)
  have KX_3 := Lib.hid (hb)
  clear hb
  clear q0 q1 q2 q3 q4 q5 q6 q7 q8 q9 q10 q11 q12
  have hxb := HX.out.below KX_3.out
  have hgx := Get_bn HN.out.2 hxb (by have := HN.out.1; omega) (HT.out.below K0_3.out) HFULL.out
  have HGX := Lib.hid hgx
  clear hgx hxb
  go_wp2_with fail
  refine HGX.out.mono ?_
  rintro e w4 ⟨Am, cm, rfl, hvm, hb⟩
  have K0_4 := Lib.hid (below_chain K0_3.out hb)
  have K1_4 := Lib.hid (below_chain K1_3.out hb)
  have KX_4 := Lib.hid (below_chain KX_3.out hb)
  have HVM := Lib.hid hvm
  clear hvm hb
  go_wp2_with (first
    | ((with_reducible show wpList _ _ _ _ _ w4); refine wpList_allocS rfl 28 rfl (calCells calZero (.slice none 0 0)) callZero ?_; intro gM waM hk4 hb4 hg4; go_frame; have CA := Lib.hid hk4; have BA := Lib.hid hb4; have GA := Lib.hid hg4; clear hk4 hb4 hg4)
    | ((with_reducible show wpList _ _ _ _ _ waM); refine wpList_storeS rfl 28 _ _ rfl gM rfl (calCells c (.slice Am c.data.length cm)) (calCells calZero (.slice none 0 0)) rfl CA.out rfl (cal_one rfl) infoCall ?_; intro wbM hk5 ht5; go_frame; have CM := Lib.hid hk5; have BB := Lib.hid (BA.out.trans (ht5.below BA.out.size fun k e => by have := GA.out; omega)); clear hk5 ht5 CA BA GA; have hc1q := C1.out.below (below_chain K1_4.out BB.out) C1.out.lt; obtain ⟨q0, q1, q2, q3, q4, q5, q6, q7, q8, q9, q10, q11, q12⟩ := Cs.cal hc1q; obtain ⟨p0, p1, p2, p3, p4, p5, p6, p7, p8, p9, p10, p11, p12⟩ := Cs.cal CM.out; clear hc1q)
    | fail)
  have K0_5 := Lib.hid (below_chain K0_4.out BB.out)
  have K1_5 := Lib.hid (below_chain K1_4.out BB.out)
  have KX_5 := Lib.hid (below_chain KX_4.out BB.out)
  have KV_5 := Lib.hid (BB.out)
  clear BB
  have HS1 := Lib.hid (Same_v (HVM.out.below KV_5.out) (HCV.out.below K0_5.out))
  rw [sameX_self] at HS1
  refine HS1.out.mono ?_
  rintro e w5 ⟨rfl, hb⟩
  have K0_6 := Lib.hid (below_chain K0_5.out hb)
  have K1_6 := Lib.hid (below_chain K1_5.out hb)
  have KX_6 := Lib.hid (below_chain KX_5.out hb)
  have KV_6 := Lib.hid (below_chain KV_5.out hb)
  have KM_6 := Lib.hid (hb)
  clear hb
  clear p0 p1 p2 p3 p4 p5 p6 p7 p8 p9 p10 p11 p12 q0 q1 q2 q3 q4 q5 q6 q7 q8 q9 q10 q11 q12
  obtain ⟨p0, p1, p2, p3, p4, p5, p6, p7, p8, p9, p10, p11, p12⟩ := Cs.cal (CM.out.below KM_6.out CM.out.lt)
  obtain ⟨q0, q1, q2, q3, q4, q5, q6, q7, q8, q9, q10, q11, q12⟩ := Cs.cal (C1.out.below K1_6.out C1.out.lt)
  have HS2 := Lib.hid (SameR_v (HVM.out.below KV_6.out) (HCV.out.below K0_6.out))
  rw [sameX_self] at HS2
  go_wp2_with fail
  refine HS2.out.mono ?_
  rintro e w6 ⟨rfl, hb⟩
  have K0_7 := Lib.hid (below_chain K0_6.out hb)
  have K1_7 := Lib.hid (below_chain K1_6.out hb)
  have KX_7 := Lib.hid (below_chain KX_6.out hb)
  have KV_7 := Lib.hid (below_chain KV_6.out hb)
  have KM_7 := Lib.hid (below_chain KM_6.out hb)
  clear hb
  clear p0 p1 p2 p3 p4 p5 p6 p7 p8 p9 p10 p11 p12 q0 q1 q2 q3 q4 q5 q6 q7 q8 q9 q10 q11 q12
  have HXC := Lib.hid (HX.out.below KX_7.out)
  have hrx := HXC.out.rdC
  have hnx : Ax = none → putX c = [] ∧ cx = 0 := by obtain ⟨A', c', e, -, e2, -⟩ := HXC.out; injection e with ea en ec; subst ea; subst ec; exact e2
  have hcp := Copy_ty (putX c) Ax cx w6 (by have := HN.out.1; have := HN.out.2; omega) hrx hnx
  rw [HN.out.2] at hcp
  go_wp2_with fail
  refine hcp.mono ?_
  clear hcp hrx hnx HXC
  rintro e wc ⟨vc, rfl, hoc, -, hb⟩
  have K0_8 := Lib.hid (below_chain K0_7.out hb)
  have K1_8 := Lib.hid (below_chain K1_7.out hb)
  have KX_8 := Lib.hid (below_chain KX_7.out hb)
  have KV_8 := Lib.hid (below_chain KV_7.out hb)
  have KM_8 := Lib.hid (below_chain KM_7.out hb)
  have KC_8 := Lib.hid (hb)
  have HBC := Lib.hid hb
  obtain ⟨Ac, Nc, cc, rfl, -⟩ := own_slice hoc
  have HOC := Lib.hid hoc
  have hrd2 := (HV2.out.below K0_8.out).rdC
  have hni2 : A2 = none → l2 = [] ∧ c2 = 0 := by obtain ⟨A', c', e, -, e2, -⟩ := HV2.out; cases e; exact e2
  have HR2 := Lib.hid hrd2
  have HNI2 := Lib.hid hni2
  clear hoc hb hrd2 hni2
  go_wp2_with (at_builtin; refine append_to rfl (.tmp 71) (.tmp 72) rfl w6.heap.size _ _ (putX c) rfl HOC.out A2 l2 _ c2 rfl rfl HR2.out HNI2.out (by have := HL2.out; have := HN.out.1; have := HN.out.2; omega) HBC.out.size ?_; intro vd wd ho hg hto; obtain ⟨Ad, Nd, cd, rfl, hNd⟩ := own_slice ho; have HOD := Lib.hid ho; have BD := Lib.hid (below_own HBC.out hg HOC.out (Nat.le_refl _) HBC.out.size); have HND := Lib.hid hNd; clear ho hg hto hNd)
  have K0_59 := Lib.hid (below_chain K0_7.out BD.out)
  have K1_59 := Lib.hid (below_chain K1_7.out BD.out)
  have KX_59 := Lib.hid (below_chain KX_7.out BD.out)
  have KV_59 := Lib.hid (below_chain KV_7.out BD.out)
  have KM_59 := Lib.hid (below_chain KM_7.out BD.out)
  have KC_59 := Lib.hid (BD.out)
  have hnd : Nd = (putX c ++ l2).length := by rw [List.length_append, HN.out.2]; exact HND.out
  have hyd : BsV wd (w6.heap.size ≤ ·) (.slice Ad Nd cd) (putX c ++ l2) := BsV.own (by have := HOD.out; rw [← HN.out.2, ← List.length_append] at this; exact this)
  subst hnd
  obtain ⟨z, hz⟩ : ∃ z, getX (putX c ++ l2) = z := ⟨_, rfl⟩
  obtain ⟨zc, ze⟩ := z
  have hze : (ze == 0) = (l2.length == 0) := by rw [show ze = (getX (putX c ++ l2)).2 by rw [hz]]; exact HMORE.out
  have hgt := Get_b hyd (by rw [List.length_append]; have := HL2.out; have := HN.out.1; have := HN.out.2; omega) (HT.out.below K0_59.out) hz
  clear hyd hz
  generalize (putX c ++ l2).length = ny at *
  have HGT := Lib.hid hgt
  clear hgt
  have hl0 : (l2.length == 0) = false := by rw [beq_eq_false_iff_ne]; exact fun e => HE2.out (List.eq_nil_of_length_eq_zero e)
  rw [hl0] at hze
  have hl1 : ((l2.length : Int) == 0) = false := by rw [beq_eq_false_iff_ne] at hl0 ⊢; omega
  have hl2' : l2.length ≠ 0 := by rw [beq_eq_false_iff_ne] at hl0; exact hl0
  go_wp2_with fail
  refine HGT.out.mono ?_
  rintro e we ⟨Ae, ce, rfl, hve, hb⟩
  have K0_10 := Lib.hid (below_chain K0_59.out hb)
  have K1_10 := Lib.hid (below_chain K1_59.out hb)
  have KX_10 := Lib.hid (below_chain KX_59.out hb)
  have KV_10 := Lib.hid (below_chain KV_59.out hb)
  have KM_10 := Lib.hid (below_chain KM_59.out hb)
  have KC_10 := Lib.hid (below_chain KC_59.out hb)
  clear hb hve
  go_wp2_with (first
    | ((with_reducible show wpList _ _ _ _ _ we); refine wpList_allocS rfl 28 rfl (calCells calZero (.slice none 0 0)) callZero ?_; intro gE waE hk4 hb4 hg4; go_frame; have CA := Lib.hid hk4; have BA := Lib.hid hb4; have GA := Lib.hid hg4; clear hk4 hb4 hg4)
    | ((with_reducible show wpList _ _ _ _ _ waE); refine wpList_storeS rfl 28 _ _ rfl gE rfl (calCells zc (.slice Ae zc.data.length ce)) (calCells calZero (.slice none 0 0)) rfl CA.out rfl (cal_one rfl) infoCall ?_; intro wbE hk5 ht5; go_frame; have CE := Lib.hid hk5; have BB := Lib.hid (BA.out.trans (ht5.below BA.out.size fun k e => by have := GA.out; omega)); clear hk5 ht5 CA BA GA)
    | fail)
  have K0_11 := Lib.hid (below_chain K0_10.out BB.out)
  have K1_11 := Lib.hid (below_chain K1_10.out BB.out)
  have KX_11 := Lib.hid (below_chain KX_10.out BB.out)
  have KV_11 := Lib.hid (below_chain KV_10.out BB.out)
  have KM_11 := Lib.hid (below_chain KM_10.out BB.out)
  have KC_11 := Lib.hid (below_chain KC_10.out BB.out)
  clear BB
  rcases hb2 : (getX l1).2 == 0 with _ | _
  · skip
    have HB2 := Lib.hid hb2
    clear hb2
    have hz1 : (getX l1).1 = calZero := get_zero (by have := HB2.out; simpa using this)
    obtain ⟨er, her⟩ : ∃ er, (getX l1).2 = er := ⟨_, rfl⟩
    have hne : (er != 0) = true := by rw [← her, bne, HB2.out]; rfl
    have heq : (er == 0) = false := by rw [← her]; exact HB2.out
    have hx1 : getX l1 = (calZero, er) := Prod.ext hz1 her
    have HX1 := Lib.hid hx1
    clear hz1 her hx1
    go_wp2_with fail
    refine (Get_b (HV1.out.below K0_11.out) (by have := HL1.out; omega) (HT.out.below K0_11.out) HX1.out).mono ?_
    rintro e wq ⟨Aq, cq, rfl, hvq, hb⟩
    have K0_12 := Lib.hid (below_chain K0_11.out hb)
    have K1_12 := Lib.hid (below_chain K1_11.out hb)
    have KX_12 := Lib.hid (below_chain KX_11.out hb)
    have KV_12 := Lib.hid (below_chain KV_11.out hb)
    have KM_12 := Lib.hid (below_chain KM_11.out hb)
    have KC_12 := Lib.hid (below_chain KC_11.out hb)
    have HVQ := Lib.hid hvq
    clear hvq hb
    go_wp2_with (first
      | ((with_reducible show wpList _ _ _ _ _ wq); refine wpList_allocS rfl 28 rfl (calCells calZero (.slice none 0 0)) callZero ?_; intro gQ waQ hk4 hb4 hg4; go_frame; have CA := Lib.hid hk4; have BA := Lib.hid hb4; have GA := Lib.hid hg4; clear hk4 hb4 hg4)
      | ((with_reducible show wpList _ _ _ _ _ waQ); refine wpList_storeS rfl 28 _ _ rfl gQ rfl (calCells calZero (.slice Aq calZero.data.length cq)) (calCells calZero (.slice none 0 0)) rfl CA.out rfl (cal_one rfl) infoCall ?_; intro wbQ hk5 ht5; go_frame; have CQ := Lib.hid hk5; have BB := Lib.hid (BA.out.trans (ht5.below BA.out.size fun k e => by have := GA.out; omega)); clear hk5 ht5 CA BA GA; obtain ⟨p0, p1, p2, p3, p4, p5, p6, p7, p8, p9, p10, p11, p12⟩ := Cs.cal CQ.out)
      | fail)
    have K0_13 := Lib.hid (below_chain K0_12.out BB.out)
    have K1_13 := Lib.hid (below_chain K1_12.out BB.out)
    have KX_13 := Lib.hid (below_chain KX_12.out BB.out)
    have KV_13 := Lib.hid (below_chain KV_12.out BB.out)
    have KM_13 := Lib.hid (below_chain KM_12.out BB.out)
    have KC_13 := Lib.hid (below_chain KC_12.out BB.out)
    have KQ_13 := Lib.hid (BB.out)
    clear BB
    refine (SameR_v (HVQ.out.below KQ_13.out) (calZ_v _ (fun _ => False))).mono ?_
    rw [sameX_self]
    rintro e wr ⟨rfl, hb⟩
    have K0_14 := Lib.hid (below_chain K0_13.out hb)
    have K1_14 := Lib.hid (below_chain K1_13.out hb)
    have KX_14 := Lib.hid (below_chain KX_13.out hb)
    have KV_14 := Lib.hid (below_chain KV_13.out hb)
    have KM_14 := Lib.hid (below_chain KM_13.out hb)
    have KC_14 := Lib.hid (below_chain KC_13.out hb)
    have KQ_14 := Lib.hid (below_chain KQ_13.out hb)
    clear hb p0 p1 p2 p3 p4 p5 p6 p7 p8 p9 p10 p11 p12
    go_wp2_with fail
    refine (lives10_v _ (HT.out.below K0_14.out)).mono ?_
    rintro e ws ⟨rfl, hb⟩
    have K0_15 := Lib.hid (below_chain K0_14.out hb)
    have K1_15 := Lib.hid (below_chain K1_14.out hb)
    have KX_15 := Lib.hid (below_chain KX_14.out hb)
    have KV_15 := Lib.hid (below_chain KV_14.out hb)
    have KM_15 := Lib.hid (below_chain KM_14.out hb)
    have KC_15 := Lib.hid (below_chain KC_14.out hb)
    have KQ_15 := Lib.hid (below_chain KQ_14.out hb)
    clear hb
    go_wp2_with fail
    go_ret
    exact ⟨rfl, K0_15.out⟩
  · skip
    have HB2 := Lib.hid hb2
    clear hb2
    have he1 : (getX l1).2 = 0 := by have := HB2.out; simpa using this
    obtain ⟨hm1, hp1⟩ := call_back10 he1
    obtain ⟨m1, hm1d⟩ : ∃ m, (getX l1).1 = m := ⟨_, rfl⟩
    rw [hm1d] at hm1 hp1
    have hx1 : getX l1 = (m1, 0) := Prod.ext hm1d he1
    have HX1 := Lib.hid hx1
    have HM1 := Lib.hid hm1
    have HP1 := Lib.hid hp1
    clear he1 hm1d hx1 hm1 hp1
    go_wp2_with fail
    refine (Get_b (HV1.out.below K0_11.out) (by have := HL1.out; omega) (HT.out.below K0_11.out) HX1.out).mono ?_
    rintro e wq ⟨Aq, cq, rfl, hvq, hb⟩
    have K0_12 := Lib.hid (below_chain K0_11.out hb)
    have K1_12 := Lib.hid (below_chain K1_11.out hb)
    have KX_12 := Lib.hid (below_chain KX_11.out hb)
    have KV_12 := Lib.hid (below_chain KV_11.out hb)
    have KM_12 := Lib.hid (below_chain KM_11.out hb)
    have KC_12 := Lib.hid (below_chain KC_11.out hb)
    have HVQ := Lib.hid hvq
    clear hvq hb
    go_wp2_with (first
      | ((with_reducible show wpList _ _ _ _ _ wq); refine wpList_allocS rfl 28 rfl (calCells calZero (.slice none 0 0)) callZero ?_; intro gQ waQ hk4 hb4 hg4; go_frame; have CA := Lib.hid hk4; have BA := Lib.hid hb4; have GA := Lib.hid hg4; clear hk4 hb4 hg4)
      | ((with_reducible show wpList _ _ _ _ _ waQ); refine wpList_storeS rfl 28 _ _ rfl gQ rfl (calCells m1 (.slice Aq m1.data.length cq)) (calCells calZero (.slice none 0 0)) rfl CA.out rfl (cal_one rfl) infoCall ?_; intro wbQ hk5 ht5; go_frame; have CQ := Lib.hid hk5; have BB := Lib.hid (BA.out.trans (ht5.below BA.out.size fun k e => by have := GA.out; omega)); clear hk5 ht5 CA BA GA; obtain ⟨p0, p1, p2, p3, p4, p5, p6, p7, p8, p9, p10, p11, p12⟩ := Cs.cal CQ.out)
      | fail)
    have K0_13 := Lib.hid (below_chain K0_12.out BB.out)
    have K1_13 := Lib.hid (below_chain K1_12.out BB.out)
    have KX_13 := Lib.hid (below_chain KX_12.out BB.out)
    have KV_13 := Lib.hid (below_chain KV_12.out BB.out)
    have KM_13 := Lib.hid (below_chain KM_12.out BB.out)
    have KC_13 := Lib.hid (below_chain KC_12.out BB.out)
    have KQ_13 := Lib.hid (BB.out)
    clear BB
    have hq0 : CalV wq (· < wq.heap.size) m1 (.slice Aq m1.data.length cq) := ⟨HVQ.out.1.tightC.mono fun k _ h => h.2, HVQ.out.2⟩
    have HQ0 := Lib.hid hq0
    clear hq0
    refine (PutC_yes (HQ0.out.below KQ_13.out) (fun k hk => Nat.lt_of_lt_of_le hk (KQ_13.out).size) (HT.out.below K0_13.out) HM1.out).mono ?_
    rintro e wr ⟨Ar, cr, rfl, hvr, hb⟩
    have K0_14 := Lib.hid (below_chain K0_13.out hb)
    have K1_14 := Lib.hid (below_chain K1_13.out hb)
    have KX_14 := Lib.hid (below_chain KX_13.out hb)
    have KV_14 := Lib.hid (below_chain KV_13.out hb)
    have KM_14 := Lib.hid (below_chain KM_13.out hb)
    have KC_14 := Lib.hid (below_chain KC_13.out hb)
    have KQ_14 := Lib.hid (below_chain KQ_13.out hb)
    have HVR := Lib.hid hvr
    have HBR := Lib.hid hb
    clear hvr hb p0 p1 p2 p3 p4 p5 p6 p7 p8 p9 p10 p11 p12
    obtain ⟨p0, p1, p2, p3, p4, p5, p6, p7, p8, p9, p10, p11, p12⟩ := Cs.cal (CQ.out.below HBR.out CQ.out.lt)
    have HSB := Lib.hid (Same_any Ar A1 (putX m1) l1 cr c1 wr HVR.out.rdC (HV1.out.below K0_14.out).rdC)
    rw [HP1.out] at HSB ⊢
    rw [show (l1 == l1) = true from beq_self_eq_true l1] at HSB
    go_wp2_with fail
    refine HSB.out.mono ?_
    rintro e wt ⟨rfl, rfl⟩
    have HMY := Lib.hid (May_v (HQ0.out.below KQ_14.out) (HT.out.below K0_14.out))
    rw [HM1.out] at HMY
    go_wp2_with fail
    refine HMY.out.mono ?_
    rintro e wu ⟨rfl, hb⟩
    have K0_15 := Lib.hid (below_chain K0_14.out hb)
    have K1_15 := Lib.hid (below_chain K1_14.out hb)
    have KX_15 := Lib.hid (below_chain KX_14.out hb)
    have KV_15 := Lib.hid (below_chain KV_14.out hb)
    have KM_15 := Lib.hid (below_chain KM_14.out hb)
    have KC_15 := Lib.hid (below_chain KC_14.out hb)
    have KQ_15 := Lib.hid (below_chain KQ_14.out hb)
    clear hb p0 p1 p2 p3 p4 p5 p6 p7 p8 p9 p10 p11 p12
    go_wp2_with fail
    refine (lives10_v _ (HT.out.below K0_15.out)).mono ?_
    rintro e ws ⟨rfl, hb⟩
    have K0_16 := Lib.hid (below_chain K0_15.out hb)
    have K1_16 := Lib.hid (below_chain K1_15.out hb)
    have KX_16 := Lib.hid (below_chain KX_15.out hb)
    have KV_16 := Lib.hid (below_chain KV_15.out hb)
    have KM_16 := Lib.hid (below_chain KM_15.out hb)
    have KC_16 := Lib.hid (below_chain KC_15.out hb)
    have KQ_16 := Lib.hid (below_chain KQ_15.out hb)
    clear hb
    go_wp2_with fail
    go_ret
    exact ⟨rfl, K0_16.out⟩

end Go.Proofs.YthfaemcpheecfaaDoor
