/- CallBack: the walk. -/
import Derived.Test.YthfaemcpheecfaaDoorCalL
import Derived.Test.YthfaemcpheecfaaDoorCalR3
import Derived.Test.YthfaemcpheecfaaDoorTblK
namespace Go.Proofs.YthfaemcpheecfaaDoor
open Go.RowKit Go.Shelf
set_option linter.unusedVariables false
set_option maxRecDepth 100000
set_option linter.unusedSimpArgs false

theorem BsV.tightC {w : World} {F : Nat → Prop} {v : Value} {l : List UInt8} (h : BsV w F v l) : BsV w (fun k => F k ∧ k < w.heap.size) v l := by
  obtain ⟨A, c, e, h1, h2⟩ := h
  refine ⟨A, c, e, ?_, h2⟩
  rcases h1 with h1 | ⟨b, off, e1, hF, hc⟩
  · exact .inl h1
  · by_cases h0 : l = []
    · exact .inl h0
    · exact .inr ⟨b, off, e1, ⟨hF, lt_of_cell (hc 0 (List.length_pos_iff.2 h0))⟩, hc⟩
/-- Put of a call that may be, or not, in one word each -/
theorem PutC_no {F : Nat → Prop} {c : CallX} {v : Value} {w : World} (h : CalV w F c v) (hF : ∀ k, F k → k < w.heap.size) (hT : Tabs w) (hm : mayX c = false) : Calls Tryd.prog 7 #[.agg (calCells c v).toArray] w fun e w' => e = .returned (.tuple #[.slice none 0 0, .int .i64 2]) ∧ Below w.heap.size w w' := by
  refine (Put_v h hF hT).mono ?_
  rintro e w' (⟨-, h, hb⟩ | ⟨h, -⟩)
  · exact ⟨h, hb⟩
  · rw [hm] at h; cases h
theorem PutC_yes {F : Nat → Prop} {c : CallX} {v : Value} {w : World} (h : CalV w F c v) (hF : ∀ k, F k → k < w.heap.size) (hT : Tabs w) (hm : mayX c = true) : Calls Tryd.prog 7 #[.agg (calCells c v).toArray] w fun e w' => ∃ A cp, e = .returned (.tuple #[.slice A (putX c).length cp, .int .i64 0]) ∧ BsV w' (w.heap.size ≤ ·) (.slice A (putX c).length cp) (putX c) ∧ Below w.heap.size w w' := by
  refine (Put_v h hF hT).mono ?_
  rintro e w' (⟨h, -⟩ | ⟨-, v, he, hv, -, -, hb⟩)
  · rw [hm] at h; cases h
  · obtain ⟨A, cp, rfl, -⟩ := id hv
    exact ⟨A, cp, he, hv, hb⟩
/-- Get of bytes that read -/
theorem Get_b {F : Nat → Prop} {l : List UInt8} {A : Option Addr} {cp : Nat} {w : World} (h : BsV w F (.slice A l.length cp) l) (hl : l.length ≤ 140737488355328) (hT : Tabs w) {x : CallX × Int} (hx : getX l = x) : Calls Tryd.prog 9 #[.slice A l.length cp] w fun e w' => ∃ A' c', e = .returned (.tuple #[.agg (calCells x.1 (.slice A' x.1.data.length c')).toArray, .int .i64 x.2]) ∧ CalV w' (w.heap.size ≤ ·) x.1 (.slice A' x.1.data.length c') ∧ Below w.heap.size w w' := by
  obtain ⟨A0, c0, e0, h1, h2, -⟩ := id h
  cases e0
  subst hx
  refine (Get_v l A cp w hl h1.rd h2 hT).mono ?_
  rintro e w' ⟨v, he, hv, hb⟩
  obtain ⟨A', c', rfl, -⟩ := id hv.1
  exact ⟨A', c', he, hv, hb⟩
theorem Get_bn {F : Nat → Prop} {l : List UInt8} {A : Option Addr} {n cp : Nat} {w : World} (hn : l.length = n) (h : BsV w F (.slice A n cp) l) (hl : n ≤ 140737488355328) (hT : Tabs w) {x : CallX × Int} (hx : getX l = x) : Calls Tryd.prog 9 #[.slice A n cp] w fun e w' => ∃ A' c', e = .returned (.tuple #[.agg (calCells x.1 (.slice A' x.1.data.length c')).toArray, .int .i64 x.2]) ∧ CalV w' (w.heap.size ≤ ·) x.1 (.slice A' x.1.data.length c') ∧ Below w.heap.size w w' := by
  subst hn
  exact Get_b h hl hT hx
set_option maxHeartbeats 16000000 in
theorem back10_no (c : CallX) (u : Value) (l1 : List UInt8) (A1 : Option Addr) (c1 : Nat) (l2 : List UInt8) (A2 : Option Addr) (c2 : Nat) (cut : Int) (w : World) (hT : Tabs w) (hc : CalV w (· < w.heap.size) c u)
    (hl1 : l1.length ≤ 140737488351232) (rd1 : Rd w A1 l1) (hlc1 : l1.length ≤ c1) (hcm1 : c1 ≤ maxLen) (nil1 : A1 = none → l1 = [] ∧ c1 = 0)
    (hl2 : l2.length ≤ 140737488351232) (rd2 : Rd w A2 l2) (hlc2 : l2.length ≤ c2) (hcm2 : c2 ≤ maxLen) (nil2 : A2 = none → l2 = [] ∧ c2 = 0) (lo3 : -9223372036854775808 ≤ cut) (hi3 : cut ≤ 9223372036854775807) (hm : mayX c = false) :
    Calls Tryd.prog 4 #[.agg (calCells c u).toArray, .slice A1 l1.length c1, .slice A2 l2.length c2, .int .i64 cut] w fun e w' => e = .returned (.bool true) ∧ Below w.heap.size w w' := by
  have hv1 : BsV w (· < w.heap.size) (.slice A1 l1.length c1) l1 := ⟨A1, c1, rfl, rd1.f fun b off e hlt => hlt, nil1, hlc1, hcm1⟩
  have hv2 : BsV w (· < w.heap.size) (.slice A2 l2.length c2) l2 := ⟨A2, c2, rfl, rd2.f fun b off e hlt => hlt, nil2, hlc2, hcm2⟩
  obtain ⟨A, cp, rfl, -⟩ := id hc.1
  have HV1 := Lib.hid hv1
  have HV2 := Lib.hid hv2
  have HCV := Lib.hid hc
  have HT := Lib.hid hT
  have HL1 := Lib.hid hl1
  have HL2 := Lib.hid hl2
  have hN1 : l1.length ≤ 9223372036854775807 := by omega
  have hN2 : l2.length ≤ 9223372036854775807 := by omega
  clear hv1 hv2 hc hT hl1 rd1 hlc1 hcm1 nil1 hl2 rd2 hlc2 hcm2 nil2
  have HM := Lib.hid hm
  clear hm
  go_enter Tryd.func4, Tryd.ntmps4
  go_wp2_with (first
    | ((with_reducible show wpList _ _ _ _ _ w); refine wpList_boxS rfl 28 _ rfl (calCells c (.slice A c.data.length cp)) rfl ?_; intro g1 w1 hk1 hb1 hg1; go_frame; have C1 := Lib.hid hk1; have B1 := Lib.hid hb1; clear hk1 hb1 hg1)
    | ((with_reducible show wpList _ _ _ _ _ w1); refine wpList_loadS rfl 28 _ rfl g1 rfl (calCells c (.slice A c.data.length cp)) C1.out _ Tryd.underlying28 rfl infoCall ?_; go_frame)
    | fail)
  have K0_1 := Lib.hid (B1.out)
  refine (PutC_no (HCV.out.below K0_1.out) (fun k hk => Nat.lt_of_lt_of_le hk (K0_1.out).size) (HT.out.below K0_1.out) HM.out).mono ?_
  rintro e w2 ⟨rfl, hb⟩
  have K0_2 := Lib.hid (below_chain K0_1.out hb)
  have K1_2 := Lib.hid (hb)
  obtain ⟨q0, q1, q2, q3, q4, q5, q6, q7, q8, q9, q10, q11, q12⟩ := Cs.cal (C1.out.below hb C1.out.lt)
  clear hb
  have HMC := Lib.hid (May_v (HCV.out.below K0_2.out) (HT.out.below K0_2.out))
  rw [HM.out] at HMC
  go_wp2_with fail
  refine HMC.out.mono ?_
  rintro e w3 ⟨rfl, hb⟩
  have K0_3 := Lib.hid (below_chain K0_2.out hb)
  have K1_3 := Lib.hid (below_chain K1_2.out hb)
  clear hb q0 q1 q2 q3 q4 q5 q6 q7 q8 q9 q10 q11 q12
  rcases hb2 : (getX l1).2 == 0 with _ | _
  · skip
    have HB2 := Lib.hid hb2
    clear hb2
    have hz1 : (getX l1).1 = calZero := get_zero (by have := HB2.out; simpa using this)
    obtain ⟨er, her⟩ : ∃ er, (getX l1).2 = er := ⟨_, rfl⟩
    have hne : (er != 0) = true := by rw [← her, bne, HB2.out]; rfl
    have heq : (er == 0) = false := by rw [← her]; exact HB2.out
    have hx1 : getX l1 = (calZero, er) := Prod.ext hz1 her
    have HX1 := Lib.hid hx1
    clear hz1 her hx1
    go_wp2_with fail
    refine (Get_b (HV1.out.below K0_3.out) (by have := HL1.out; omega) (HT.out.below K0_3.out) HX1.out).mono ?_
    rintro e wq ⟨Aq, cq, rfl, hvq, hb⟩
    have K0_4 := Lib.hid (below_chain K0_3.out hb)
    have K1_4 := Lib.hid (below_chain K1_3.out hb)
    have HVQ := Lib.hid hvq
    clear hvq hb
    go_wp2_with (first
      | ((with_reducible show wpList _ _ _ _ _ wq); refine wpList_allocS rfl 28 rfl (calCells calZero (.slice none 0 0)) callZero ?_; intro gQ waQ hk4 hb4 hg4; go_frame; have CA := Lib.hid hk4; have BA := Lib.hid hb4; have GA := Lib.hid hg4; clear hk4 hb4 hg4)
      | ((with_reducible show wpList _ _ _ _ _ waQ); refine wpList_storeS rfl 28 _ _ rfl gQ rfl (calCells calZero (.slice Aq calZero.data.length cq)) (calCells calZero (.slice none 0 0)) rfl CA.out rfl (cal_one rfl) infoCall ?_; intro wbQ hk5 ht5; go_frame; have CQ := Lib.hid hk5; have BB := Lib.hid (BA.out.trans (ht5.below BA.out.size fun k e => by have := GA.out; omega)); clear hk5 ht5 CA BA GA; obtain ⟨p0, p1, p2, p3, p4, p5, p6, p7, p8, p9, p10, p11, p12⟩ := Cs.cal CQ.out)
      | fail)
    have K0_5 := Lib.hid (below_chain K0_4.out BB.out)
    have K1_5 := Lib.hid (below_chain K1_4.out BB.out)
    have KQ_5 := Lib.hid (BB.out)
    clear BB
    refine (SameR_v (HVQ.out.below KQ_5.out) (calZ_v _ (fun _ => False))).mono ?_
    rw [sameX_self]
    rintro e wr ⟨rfl, hb⟩
    have K0_6 := Lib.hid (below_chain K0_5.out hb)
    have K1_6 := Lib.hid (below_chain K1_5.out hb)
    have KQ_6 := Lib.hid (below_chain KQ_5.out hb)
    clear hb p0 p1 p2 p3 p4 p5 p6 p7 p8 p9 p10 p11 p12
    go_wp2_with fail
    refine (lives10_v _ (HT.out.below K0_6.out)).mono ?_
    rintro e ws ⟨rfl, hb⟩
    have K0_7 := Lib.hid (below_chain K0_6.out hb)
    have K1_7 := Lib.hid (below_chain K1_6.out hb)
    have KQ_7 := Lib.hid (below_chain KQ_6.out hb)
    clear hb
    go_wp2_with fail
    go_ret
    exact ⟨rfl, K0_7.out⟩
  · skip
    have HB2 := Lib.hid hb2
    clear hb2
    have he1 : (getX l1).2 = 0 := by have := HB2.out; simpa using this
    obtain ⟨hm1, hp1⟩ := call_back10 he1
    obtain ⟨m1, hm1d⟩ : ∃ m, (getX l1).1 = m := ⟨_, rfl⟩
    rw [hm1d] at hm1 hp1
    have hx1 : getX l1 = (m1, 0) := Prod.ext hm1d he1
    have HX1 := Lib.hid hx1
    have HM1 := Lib.hid hm1
    have HP1 := Lib.hid hp1
    clear he1 hm1d hx1 hm1 hp1
    go_wp2_with fail
    refine (Get_b (HV1.out.below K0_3.out) (by have := HL1.out; omega) (HT.out.below K0_3.out) HX1.out).mono ?_
    rintro e wq ⟨Aq, cq, rfl, hvq, hb⟩
    have K0_4 := Lib.hid (below_chain K0_3.out hb)
    have K1_4 := Lib.hid (below_chain K1_3.out hb)
    have HVQ := Lib.hid hvq
    clear hvq hb
    go_wp2_with (first
      | ((with_reducible show wpList _ _ _ _ _ wq); refine wpList_allocS rfl 28 rfl (calCells calZero (.slice none 0 0)) callZero ?_; intro gQ waQ hk4 hb4 hg4; go_frame; have CA := Lib.hid hk4; have BA := Lib.hid hb4; have GA := Lib.hid hg4; clear hk4 hb4 hg4)
      | ((with_reducible show wpList _ _ _ _ _ waQ); refine wpList_storeS rfl 28 _ _ rfl gQ rfl (calCells m1 (.slice Aq m1.data.length cq)) (calCells calZero (.slice none 0 0)) rfl CA.out rfl (cal_one rfl) infoCall ?_; intro wbQ hk5 ht5; go_frame; have CQ := Lib.hid hk5; have BB := Lib.hid (BA.out.trans (ht5.below BA.out.size fun k e => by have := GA.out; omega)); clear hk5 ht5 CA BA GA; obtain ⟨p0, p1, p2, p3, p4, p5, p6, p7, p8, p9, p10, p11, p12⟩ := Cs.cal CQ.out)
      | fail)
    have K0_5 := Lib.hid (below_chain K0_4.out BB.out)
    have K1_5 := Lib.hid (below_chain K1_4.out BB.out)
    have KQ_5 := Lib.hid (BB.out)
    clear BB
    have hq0 : CalV wq (· < wq.heap.size) m1 (.slice Aq m1.data.length cq) := ⟨HVQ.out.1.tightC.mono fun k _ h => h.2, HVQ.out.2⟩
    have HQ0 := Lib.hid hq0
    clear hq0
    refine (PutC_yes (HQ0.out.below KQ_5.out) (fun k hk => Nat.lt_of_lt_of_le hk (KQ_5.out).size) (HT.out.below K0_5.out) HM1.out).mono ?_
    rintro e wr ⟨Ar, cr, rfl, hvr, hb⟩
    have K0_6 := Lib.hid (below_chain K0_5.out hb)
    have K1_6 := Lib.hid (below_chain K1_5.out hb)
    have KQ_6 := Lib.hid (below_chain KQ_5.out hb)
    have HVR := Lib.hid hvr
    have HBR := Lib.hid hb
    clear hvr hb p0 p1 p2 p3 p4 p5 p6 p7 p8 p9 p10 p11 p12
    obtain ⟨p0, p1, p2, p3, p4, p5, p6, p7, p8, p9, p10, p11, p12⟩ := Cs.cal (CQ.out.below HBR.out CQ.out.lt)
    have HSB := Lib.hid (Same_any Ar A1 (putX m1) l1 cr c1 wr HVR.out.rdC (HV1.out.below K0_6.out).rdC)
    rw [HP1.out] at HSB ⊢
    rw [show (l1 == l1) = true from beq_self_eq_true l1] at HSB
    go_wp2_with fail
    refine HSB.out.mono ?_
    rintro e wt ⟨rfl, rfl⟩
    have HMY := Lib.hid (May_v (HQ0.out.below KQ_6.out) (HT.out.below K0_6.out))
    rw [HM1.out] at HMY
    go_wp2_with fail
    refine HMY.out.mono ?_
    rintro e wu ⟨rfl, hb⟩
    have K0_7 := Lib.hid (below_chain K0_6.out hb)
    have K1_7 := Lib.hid (below_chain K1_6.out hb)
    have KQ_7 := Lib.hid (below_chain KQ_6.out hb)
    clear hb p0 p1 p2 p3 p4 p5 p6 p7 p8 p9 p10 p11 p12
    go_wp2_with fail
    refine (lives10_v _ (HT.out.below K0_7.out)).mono ?_
    rintro e ws ⟨rfl, hb⟩
    have K0_8 := Lib.hid (below_chain K0_7.out hb)
    have K1_8 := Lib.hid (below_chain K1_7.out hb)
    have KQ_8 := Lib.hid (below_chain KQ_7.out hb)
    clear hb
    go_wp2_with fail
    go_ret
    exact ⟨rfl, K0_8.out⟩

end Go.Proofs.YthfaemcpheecfaaDoor
