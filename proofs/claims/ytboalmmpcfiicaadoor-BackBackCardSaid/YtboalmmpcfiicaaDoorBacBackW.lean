/- BackBack: the walk. -/
import Derived.Test.YtboalmmpcfiicaaDoorBacTellsW
namespace Go.Proofs.YtboalmmpcfiicaaDoor
open Go.RowKit Go.Shelf
set_option linter.unusedVariables false
set_option maxRecDepth 100000
set_option linter.unusedSimpArgs false

theorem BsV.tightB {w : World} {F : Nat → Prop} {v : Value} {l : List UInt8} (h : BsV w F v l) : BsV w (· < w.heap.size) v l := by
  obtain ⟨A, c, e, h1, h2⟩ := h
  exact ⟨A, c, e, h1.rd.f fun b off _ hb => hb, h2⟩
theorem getB_cases (l : List UInt8) : ((getB l).2 ≠ 0 ∧ getB l = (bacZero, (getB l).2)) ∨ (getB l = ((getB l).1, 0) ∧ mayB (getB l).1 = true ∧ putB (getB l).1 = l) := by
  by_cases h : (getB l).2 = 0
  · obtain ⟨h1, h2, -⟩ := backB h
    exact .inr ⟨Prod.ext rfl h, h1, h2⟩
  · exact .inl ⟨h, Prod.ext (getB_zero h) rfl⟩
set_option maxHeartbeats 16000000 in
theorem back11_many (c : BackX) (va ua : Value) (l1 : List UInt8) (A1 : Option Addr) (c1 : Nat) (l2 : List UInt8) (A2 : Option Addr) (c2 : Nat) (cut : Int) (w : World) (hT : Tabs w) (hc : BacV w (· < w.heap.size) c va ua) (hcl : c.data.length ≤ 140737488351232)
    (hl1 : l1.length ≤ 140737488351232) (rd1 : Rd w A1 l1) (hlc1 : l1.length ≤ c1) (hcm1 : c1 ≤ maxLen) (nil1 : A1 = none → l1 = [] ∧ c1 = 0)
    (hl2 : l2.length ≤ 140737488351232) (rd2 : Rd w A2 l2) (hlc2 : l2.length ≤ c2) (hcm2 : c2 ≤ maxLen) (nil2 : A2 = none → l2 = [] ∧ c2 = 0) (lo3 : -9223372036854775808 ≤ cut) (hi3 : cut ≤ 9223372036854775807) (hmany : 100 < c.names.length) :
    Calls Tryd.prog 4 #[.agg (bacCells c va ua).toArray, .slice A1 l1.length c1, .slice A2 l2.length c2, .int .i64 cut] w fun e w' => e = .returned (.bool true) ∧ Below w.heap.size w w' := by
  obtain ⟨A, cp, rfl, -⟩ := id hc.1
  obtain ⟨B, dp, rfl, -⟩ := id hc.2.1
  have HV1 := Lib.hid (show BsV w (· < w.heap.size) (.slice A1 l1.length c1) l1 from ⟨A1, c1, rfl, rd1.f fun b off e hlt => hlt, nil1, hlc1, hcm1⟩)
  have HV2 := Lib.hid (show BsV w (· < w.heap.size) (.slice A2 l2.length c2) l2 from ⟨A2, c2, rfl, rd2.f fun b off e hlt => hlt, nil2, hlc2, hcm2⟩)
  have HCV := Lib.hid hc
  have HT := Lib.hid hT
  have HL1 := Lib.hid hl1
  have HL2 := Lib.hid hl2
  have hN1 : l1.length ≤ 9223372036854775807 := by omega
  have hN2 : l2.length ≤ 9223372036854775807 := by omega
  clear hc hT hl1 rd1 hlc1 hcm1 nil1 hl2 rd2 hlc2 hcm2 nil2 hcl
  have hmany' : 100 < (c.names.length : Int) := by omega
  go_enter Tryd.func4, Tryd.ntmps4
  go_wp2_with (first
    | ((with_reducible show wpList _ _ _ _ _ w); refine wpList_boxS rfl 31 _ rfl (bacCells c (.slice A c.data.length cp) (.slice B c.names.length dp)) rfl ?_; intro g1 w1 hk1 hb1 hg1; go_frame; have C1 := Lib.hid hk1; have B1 := Lib.hid hb1; have pa : w1.cell? ⟨g1, 11, none⟩ = some (.slice B c.names.length dp) := C1.out.cell 11 rfl; clear hk1 hb1 hg1)
    | fail)
  refine (lives11_v w1 (HT.out.below B1.out)).mono ?_
  rintro e w2 ⟨rfl, hb⟩
  have B2 := Lib.hid (below_chain B1.out hb)
  clear hb pa
  go_wp2_with fail
  go_ret
  exact ⟨rfl, B2.out⟩
set_option maxHeartbeats 16000000 in
theorem back11_no (c : BackX) (va ua : Value) (l1 : List UInt8) (A1 : Option Addr) (c1 : Nat) (l2 : List UInt8) (A2 : Option Addr) (c2 : Nat) (cut : Int) (w : World) (hT : Tabs w) (hc : BacV w (· < w.heap.size) c va ua) (hcl : c.data.length ≤ 140737488351232)
    (hl1 : l1.length ≤ 140737488351232) (rd1 : Rd w A1 l1) (hlc1 : l1.length ≤ c1) (hcm1 : c1 ≤ maxLen) (nil1 : A1 = none → l1 = [] ∧ c1 = 0)
    (hl2 : l2.length ≤ 140737488351232) (rd2 : Rd w A2 l2) (hlc2 : l2.length ≤ c2) (hcm2 : c2 ≤ maxLen) (nil2 : A2 = none → l2 = [] ∧ c2 = 0) (lo3 : -9223372036854775808 ≤ cut) (hi3 : cut ≤ 9223372036854775807) (hn1 : c.names.length ≤ 100) (hm : mayB c = false) :
    Calls Tryd.prog 4 #[.agg (bacCells c va ua).toArray, .slice A1 l1.length c1, .slice A2 l2.length c2, .int .i64 cut] w fun e w' => e = .returned (.bool true) ∧ Below w.heap.size w w' := by
  obtain ⟨A, cp, rfl, -⟩ := id hc.1
  obtain ⟨B, dp, rfl, -⟩ := id hc.2.1
  have HV1 := Lib.hid (show BsV w (· < w.heap.size) (.slice A1 l1.length c1) l1 from ⟨A1, c1, rfl, rd1.f fun b off e hlt => hlt, nil1, hlc1, hcm1⟩)
  have HV2 := Lib.hid (show BsV w (· < w.heap.size) (.slice A2 l2.length c2) l2 from ⟨A2, c2, rfl, rd2.f fun b off e hlt => hlt, nil2, hlc2, hcm2⟩)
  have HCV := Lib.hid hc
  have HT := Lib.hid hT
  have HL1 := Lib.hid hl1
  have HL2 := Lib.hid hl2
  have hN1 : l1.length ≤ 9223372036854775807 := by omega
  have hN2 : l2.length ≤ 9223372036854775807 := by omega
  clear hc hT hl1 rd1 hlc1 hcm1 nil1 hl2 rd2 hlc2 hcm2 nil2 hcl
  have hn1' : (c.names.length : Int) ≤ 100 := by omega
  have HM := Lib.hid hm
  clear hm hn1
  go_enter Tryd.func4, Tryd.ntmps4
  go_wp2_with (first
    | ((with_reducible show wpList _ _ _ _ _ w); refine wpList_boxS rfl 31 _ rfl (bacCells c (.slice A c.data.length cp) (.slice B c.names.length dp)) rfl ?_; intro g1 w1 hk1 hb1 hg1; go_frame; have C1 := Lib.hid hk1; have B1 := Lib.hid hb1; have pa : w1.cell? ⟨g1, 11, none⟩ = some (.slice B c.names.length dp) := C1.out.cell 11 rfl; clear hk1 hb1 hg1)
    | ((with_reducible show wpList _ _ _ _ _ w1); refine wpList_loadS rfl 31 _ rfl g1 rfl (bacCells c (.slice A c.data.length cp) (.slice B c.names.length dp)) C1.out _ Tryd.underlying31 rfl infoBack ?_; go_frame)
    | fail)
  have K0_1 := Lib.hid (B1.out)
  refine (PutB_no (HCV.out.below K0_1.out) (fun k hk => Nat.lt_of_lt_of_le hk (K0_1.out).size) (HT.out.below K0_1.out) HM.out).mono ?_
  rintro e w2 ⟨rfl, hb⟩
  have K0_2 := Lib.hid (below_chain K0_1.out hb)
  have K1_2 := Lib.hid (hb)
  clear hb pa
  go_wp2_with (first
    | ((with_reducible show wpList _ _ _ _ _ w2); refine wpList_loadS rfl 31 _ rfl g1 rfl (bacCells c (.slice A c.data.length cp) (.slice B c.names.length dp)) (C1.out.below K1_2.out C1.out.lt) _ Tryd.underlying31 rfl infoBack ?_; go_frame)
    | fail)
  have hmv := May_v (HCV.out.below K0_2.out) (HT.out.below K0_2.out)
  rw [HM.out] at hmv
  refine hmv.mono ?_
  rintro e w3 ⟨rfl, hb⟩
  have K0_3 := Lib.hid (below_chain K0_2.out hb)
  have K1_3 := Lib.hid (below_chain K1_2.out hb)
  clear hb hmv
  rcases getB_cases l1 with ⟨hne, hx1⟩ | ⟨hx1, hm1, hp1⟩
  · obtain ⟨er, her⟩ : ∃ er, (getB l1).2 = er := ⟨_, rfl⟩
    rw [her] at hne hx1
    have hne1 : (er != 0) = true := by simpa using hne
    have hne2 : (er == 0) = false := by simpa using hne
    have HX1 := Lib.hid hx1
    clear hne hx1 her
    go_wp2_with fail
    refine (GetB_b rfl (HV1.out.below K0_3.out) (by have := HL1.out; omega) (HT.out.below K0_3.out) HX1.out).mono ?_
    rintro e wq ⟨Aq, cq, Bq, dq, rfl, hvq, hb⟩
    have K0_4 := Lib.hid (below_chain K0_3.out hb)
    have K1_4 := Lib.hid (below_chain K1_3.out hb)
    have HVQ := Lib.hid hvq
    clear hvq hb
    go_wp2_with (first
      | ((with_reducible show wpList _ _ _ _ _ wq); refine wpList_allocS rfl 31 rfl zc backZero ?_; intro gQ waQ hk4 hb4 hg4; go_frame; have CA := Lib.hid hk4; have BA := Lib.hid hb4; have GA := Lib.hid hg4; clear hk4 hb4 hg4)
      | ((with_reducible show wpList _ _ _ _ _ waQ); refine wpList_storeS rfl 31 _ _ rfl gQ rfl (bacCells bacZero (.slice Aq bacZero.data.length cq) (.slice Bq bacZero.names.length dq)) zc rfl CA.out rfl (bac_one rfl rfl) infoBack ?_; intro wbQ hk5 ht5; go_frame; have CQ := Lib.hid hk5; have BB := Lib.hid (BA.out.trans (ht5.below BA.out.size fun k e => by have := GA.out; omega)); clear hk5 ht5 CA BA GA)
      | ((with_reducible show wpList _ _ _ _ _ wbQ); refine wpList_loadS rfl 31 _ rfl gQ rfl (bacCells bacZero (.slice Aq bacZero.data.length cq) (.slice Bq bacZero.names.length dq)) CQ.out _ Tryd.underlying31 rfl infoBack ?_; go_frame)
      | fail)
    have K0_5 := Lib.hid (below_chain K0_4.out BB.out)
    have K1_5 := Lib.hid (below_chain K1_4.out BB.out)
    have Kq_5 := Lib.hid (BB.out)
    clear BB
    refine (SameR_v (HVQ.out.below Kq_5.out) (bacZ_v _ (fun _ => False))).mono ?_
    rw [sameB_self]
    rintro e wr ⟨rfl, hb⟩
    have K0_6 := Lib.hid (below_chain K0_5.out hb)
    have K1_6 := Lib.hid (below_chain K1_5.out hb)
    have Kq_6 := Lib.hid (below_chain Kq_5.out hb)
    have KQ_6 := Lib.hid (hb)
    clear hb
    go_wp2_with fail
    refine (lives11_v _ (HT.out.below K0_6.out)).mono ?_
    rintro e wz ⟨rfl, hb⟩
    have K0_7 := Lib.hid (below_chain K0_6.out hb)
    have K1_7 := Lib.hid (below_chain K1_6.out hb)
    have Kq_7 := Lib.hid (below_chain Kq_6.out hb)
    have KQ_7 := Lib.hid (below_chain KQ_6.out hb)
    clear hb
    go_wp2_with fail
    go_ret
    exact ⟨rfl, K0_7.out⟩
  · generalize (getB l1).1 = x1 at *
    have HX1 := Lib.hid hx1
    have HM1 := Lib.hid hm1
    have HP1 := Lib.hid hp1
    clear hx1 hm1 hp1
    go_wp2_with fail
    refine (GetB_b rfl (HV1.out.below K0_3.out) (by have := HL1.out; omega) (HT.out.below K0_3.out) HX1.out).mono ?_
    rintro e wq ⟨Aq, cq, Bq, dq, rfl, hvq, hb⟩
    have K0_4 := Lib.hid (below_chain K0_3.out hb)
    have K1_4 := Lib.hid (below_chain K1_3.out hb)
    have HVQ := Lib.hid hvq
    clear hvq hb
    go_wp2_with (first
      | ((with_reducible show wpList _ _ _ _ _ wq); refine wpList_allocS rfl 31 rfl zc backZero ?_; intro gQ waQ hk4 hb4 hg4; go_frame; have CA := Lib.hid hk4; have BA := Lib.hid hb4; have GA := Lib.hid hg4; clear hk4 hb4 hg4)
      | ((with_reducible show wpList _ _ _ _ _ waQ); refine wpList_storeS rfl 31 _ _ rfl gQ rfl (bacCells x1 (.slice Aq x1.data.length cq) (.slice Bq x1.names.length dq)) zc rfl CA.out rfl (bac_one rfl rfl) infoBack ?_; intro wbQ hk5 ht5; go_frame; have CQ := Lib.hid hk5; have BB := Lib.hid (BA.out.trans (ht5.below BA.out.size fun k e => by have := GA.out; omega)); clear hk5 ht5 CA BA GA)
      | ((with_reducible show wpList _ _ _ _ _ wbQ); refine wpList_loadS rfl 31 _ rfl gQ rfl (bacCells x1 (.slice Aq x1.data.length cq) (.slice Bq x1.names.length dq)) CQ.out _ Tryd.underlying31 rfl infoBack ?_; go_frame)
      | fail)
    have K0_5 := Lib.hid (below_chain K0_4.out BB.out)
    have K1_5 := Lib.hid (below_chain K1_4.out BB.out)
    have Kq_5 := Lib.hid (BB.out)
    clear BB
    have hvt : BacV wbQ (· < wbQ.heap.size) x1 (.slice Aq x1.data.length cq) (.slice Bq x1.names.length dq) := by
      have h1 := HVQ.out.below Kq_5.out
      exact h1.mono fun k hk _ => hk
    have HVT := Lib.hid hvt
    clear hvt
    refine (PutB_yes HVT.out (fun k hk => hk) (HT.out.below K0_5.out) HM1.out).mono ?_
    rw [HP1.out]
    rintro e wp ⟨Ap, cpp, rfl, hvp, hb⟩
    have K0_6 := Lib.hid (below_chain K0_5.out hb)
    have K1_6 := Lib.hid (below_chain K1_5.out hb)
    have Kq_6 := Lib.hid (below_chain Kq_5.out hb)
    have KQ_6 := Lib.hid (hb)
    have HVP := Lib.hid hvp
    clear hvp hb
    have hs := Same_any Ap A1 l1 l1 cpp c1 wp HVP.out.rdB (HV1.out.below K0_6.out).rdB
    rw [beq_self_eq_true] at hs
    go_wp2_with fail
    refine hs.mono ?_
    rintro e wr ⟨rfl, rfl⟩
    clear hs
    go_wp2_with (first
      | ((with_reducible show wpList _ _ _ _ _ wp); refine wpList_loadG (by rfl) 31 (.tmp 18) rfl gQ rfl (bacCells x1 (.slice Aq x1.data.length cq) (.slice Bq x1.names.length dq)) (CQ.out.below KQ_6.out CQ.out.lt) _ Tryd.underlying31 rfl infoBack ?_; go_frame)
      | fail)
    have hmv := May_v (HVQ.out.below Kq_6.out) (HT.out.below K0_6.out)
    rw [HM1.out] at hmv
    refine hmv.mono ?_
    rintro e ws ⟨rfl, hb⟩
    have K0_7 := Lib.hid (below_chain K0_6.out hb)
    have K1_7 := Lib.hid (below_chain K1_6.out hb)
    have Kq_7 := Lib.hid (below_chain Kq_6.out hb)
    have KQ_7 := Lib.hid (below_chain KQ_6.out hb)
    have Kp_7 := Lib.hid (hb)
    clear hb hmv
    go_wp2_with fail
    refine (lives11_v _ (HT.out.below K0_7.out)).mono ?_
    rintro e wz ⟨rfl, hb⟩
    have K0_8 := Lib.hid (below_chain K0_7.out hb)
    have K1_8 := Lib.hid (below_chain K1_7.out hb)
    have Kq_8 := Lib.hid (below_chain Kq_7.out hb)
    have KQ_8 := Lib.hid (below_chain KQ_7.out hb)
    have Kp_8 := Lib.hid (below_chain Kp_7.out hb)
    clear hb
    go_wp2_with fail
    go_ret
    exact ⟨rfl, K0_8.out⟩
set_option maxHeartbeats 16000000 in
theorem back11_in (c : BackX) (va ua : Value) (l1 : List UInt8) (A1 : Option Addr) (c1 : Nat) (l2 : List UInt8) (A2 : Option Addr) (c2 : Nat) (cut : Int) (w : World) (hT : Tabs w) (hc : BacV w (· < w.heap.size) c va ua) (hcl : c.data.length ≤ 140737488351232)
    (hl1 : l1.length ≤ 140737488351232) (rd1 : Rd w A1 l1) (hlc1 : l1.length ≤ c1) (hcm1 : c1 ≤ maxLen) (nil1 : A1 = none → l1 = [] ∧ c1 = 0)
    (hl2 : l2.length ≤ 140737488351232) (rd2 : Rd w A2 l2) (hlc2 : l2.length ≤ c2) (hcm2 : c2 ≤ maxLen) (nil2 : A2 = none → l2 = [] ∧ c2 = 0) (lo3 : -9223372036854775808 ≤ cut) (hi3 : cut ≤ 9223372036854775807) (hn1 : c.names.length ≤ 100) (hm : mayB c = true) (hcut : 0 ≤ cut ∧ cut < ((putB c).length : Int)) :
    Calls Tryd.prog 4 #[.agg (bacCells c va ua).toArray, .slice A1 l1.length c1, .slice A2 l2.length c2, .int .i64 cut] w fun e w' => e = .returned (.bool true) ∧ Below w.heap.size w w' := by
  obtain ⟨A, cp, rfl, -⟩ := id hc.1
  obtain ⟨B, dp, rfl, -⟩ := id hc.2.1
  have HV1 := Lib.hid (show BsV w (· < w.heap.size) (.slice A1 l1.length c1) l1 from ⟨A1, c1, rfl, rd1.f fun b off e hlt => hlt, nil1, hlc1, hcm1⟩)
  have HV2 := Lib.hid (show BsV w (· < w.heap.size) (.slice A2 l2.length c2) l2 from ⟨A2, c2, rfl, rd2.f fun b off e hlt => hlt, nil2, hlc2, hcm2⟩)
  have HCV := Lib.hid hc
  have HT := Lib.hid hT
  have HL1 := Lib.hid hl1
  have HL2 := Lib.hid hl2
  have hN1 : l1.length ≤ 9223372036854775807 := by omega
  have hN2 : l2.length ≤ 9223372036854775807 := by omega
  clear hc hT hl1 rd1 hlc1 hcm1 nil1 hl2 rd2 hlc2 hcm2 nil2 hcl
  have hn1' : (c.names.length : Int) ≤ 100 := by omega
  have hps := putB_small hm
  have hfull : getB (putB c) = (c, 0) := by
    have h := putB_get HCV.out.2.2 hm [] (by rw [List.append_nil]; omega)
    rwa [List.append_nil, if_pos rfl] at h
  have hmore := putB_more HCV.out.2.2 hm l2
  obtain ⟨n, rfl⟩ := Int.eq_ofNat_of_zero_le hcut.1
  have hnl : n < (putB c).length := by omega
  have hcutg := putB_cut HCV.out.2.2 hm n hnl
  have hpy := fun (u : World) (g : BacV u (· < u.heap.size) c (.slice A c.data.length cp) (.slice B c.names.length dp)) (t : Tabs u) => PutB_yes g (fun k hk => hk) t hm
  generalize hpl : putB c = pl at *
  have HM := Lib.hid hm
  have HPS := Lib.hid hps
  have HFULL := Lib.hid hfull
  have HMORE := Lib.hid hmore
  have HPY := Lib.hid hpy
  have HCUT := Lib.hid hcutg
  have hcut1 : (n : Int) < (pl.length : Int) := by omega
  have HNL := Lib.hid hnl
  clear hcutg hnl hcut
  clear hm hn1 hps hfull hmore hpy hpl
  go_enter Tryd.func4, Tryd.ntmps4
  go_wp2_with (first
    | ((with_reducible show wpList _ _ _ _ _ w); refine wpList_boxS rfl 31 _ rfl (bacCells c (.slice A c.data.length cp) (.slice B c.names.length dp)) rfl ?_; intro g1 w1 hk1 hb1 hg1; go_frame; have C1 := Lib.hid hk1; have B1 := Lib.hid hb1; have pa : w1.cell? ⟨g1, 11, none⟩ = some (.slice B c.names.length dp) := C1.out.cell 11 rfl; clear hk1 hb1 hg1)
    | ((with_reducible show wpList _ _ _ _ _ w1); refine wpList_loadS rfl 31 _ rfl g1 rfl (bacCells c (.slice A c.data.length cp) (.slice B c.names.length dp)) C1.out _ Tryd.underlying31 rfl infoBack ?_; go_frame)
    | fail)
  have K0_1 := Lib.hid (B1.out)
  refine (HPY.out w1 ((HCV.out.below K0_1.out).mono fun k hk _ => hk) (HT.out.below K0_1.out)).mono ?_
  rintro e w2 ⟨Ax, cx, rfl, hx, hb⟩
  have K0_2 := Lib.hid (below_chain K0_1.out hb)
  have K1_2 := Lib.hid (hb)
  obtain ⟨hxc, hxm, -⟩ := hx.capB
  have HX := Lib.hid hx
  have HXC := Lib.hid (And.intro hxc hxm)
  clear hx hb pa hxc hxm
  go_wp2_with (first
    | ((with_reducible show wpList _ _ _ _ _ w2); refine wpList_loadS rfl 31 _ rfl g1 rfl (bacCells c (.slice A c.data.length cp) (.slice B c.names.length dp)) (C1.out.below K1_2.out C1.out.lt) _ Tryd.underlying31 rfl infoBack ?_; go_frame)
    | fail)
  have hmv := May_v (HCV.out.below K0_2.out) (HT.out.below K0_2.out)
  rw [HM.out] at hmv
  refine hmv.mono ?_
  rintro e w3 ⟨rfl, hb⟩
  have K0_3 := Lib.hid (below_chain K0_2.out hb)
  have K1_3 := Lib.hid (below_chain K1_2.out hb)
  have K2_3 := Lib.hid (hb)
  clear hb hmv
  go_wp2_with fail
  refine (GetB_b rfl (HX.out.below K2_3.out) (by have := HPS.out; omega) (HT.out.below K0_3.out) HFULL.out).mono ?_
  rintro e wm ⟨Am, cm, Bm, dm, rfl, hvm, hb⟩
  have K0_4 := Lib.hid (below_chain K0_3.out hb)
  have K1_4 := Lib.hid (below_chain K1_3.out hb)
  have K2_4 := Lib.hid (below_chain K2_3.out hb)
  have HVM := Lib.hid hvm
  clear hvm hb
  go_wp2_with (first
    | ((with_reducible show wpList _ _ _ _ _ wm); refine wpList_allocS rfl 31 rfl zc backZero ?_; intro gM waM hk4 hb4 hg4; go_frame; have CA := Lib.hid hk4; have BA := Lib.hid hb4; have GA := Lib.hid hg4; clear hk4 hb4 hg4)
    | ((with_reducible show wpList _ _ _ _ _ waM); refine wpList_storeS rfl 31 _ _ rfl gM rfl (bacCells c (.slice Am c.data.length cm) (.slice Bm c.names.length dm)) zc rfl CA.out rfl (bac_one rfl rfl) infoBack ?_; intro wbM hk5 ht5; go_frame; have CM := Lib.hid hk5; have BB := Lib.hid (BA.out.trans (ht5.below BA.out.size fun k e => by have := GA.out; omega)); have C1b := Lib.hid (C1.out.below (below_chain K1_4.out BB.out) C1.out.lt); clear hk5 ht5 CA BA GA)
    | ((with_reducible show wpList _ _ _ _ _ wbM); refine wpList_loadG (by rfl) 31 (.tmp 11) rfl gM rfl (bacCells c (.slice Am c.data.length cm) (.slice Bm c.names.length dm)) CM.out _ Tryd.underlying31 rfl infoBack ?_; go_frame)
    | ((with_reducible show wpList _ _ _ _ _ wbM); refine wpList_loadG (by rfl) 31 (.tmp 4) rfl g1 rfl (bacCells c (.slice A c.data.length cp) (.slice B c.names.length dp)) C1b.out _ Tryd.underlying31 rfl infoBack ?_; go_frame)
    | fail)
  have K0_5 := Lib.hid (below_chain K0_4.out BB.out)
  have K1_5 := Lib.hid (below_chain K1_4.out BB.out)
  have K2_5 := Lib.hid (below_chain K2_4.out BB.out)
  have Km_5 := Lib.hid (BB.out)
  clear BB
  have hs := Same_v (HVM.out.below Km_5.out) (HCV.out.below K0_5.out)
  rw [sameB_self] at hs
  refine hs.mono ?_
  rintro e w7 ⟨rfl, hb⟩
  have K0_6 := Lib.hid (below_chain K0_5.out hb)
  have K1_6 := Lib.hid (below_chain K1_5.out hb)
  have K2_6 := Lib.hid (below_chain K2_5.out hb)
  have Km_6 := Lib.hid (below_chain Km_5.out hb)
  have KM_6 := Lib.hid (hb)
  clear hb hs
  go_wp2_with (first
    | ((with_reducible show wpList _ _ _ _ _ w7); refine wpList_loadG (by rfl) 31 (.tmp 11) rfl gM rfl (bacCells c (.slice Am c.data.length cm) (.slice Bm c.names.length dm)) (CM.out.below KM_6.out CM.out.lt) _ Tryd.underlying31 rfl infoBack ?_; go_frame)
    | ((with_reducible show wpList _ _ _ _ _ w7); refine wpList_loadG (by rfl) 31 (.tmp 4) rfl g1 rfl (bacCells c (.slice A c.data.length cp) (.slice B c.names.length dp)) (C1.out.below K1_6.out C1.out.lt) _ Tryd.underlying31 rfl infoBack ?_; go_frame)
    | fail)
  have hs := SameR_v (HVM.out.below Km_6.out) (HCV.out.below K0_6.out)
  rw [sameB_self] at hs
  refine hs.mono ?_
  rintro e w8 ⟨rfl, hb⟩
  have K0_7 := Lib.hid (below_chain K0_6.out hb)
  have K1_7 := Lib.hid (below_chain K1_6.out hb)
  have K2_7 := Lib.hid (below_chain K2_6.out hb)
  have Km_7 := Lib.hid (below_chain Km_6.out hb)
  have KM_7 := Lib.hid (below_chain KM_6.out hb)
  clear hb hs
  have hsl := sl_h Ax pl.length cx n (by have h1 := HXC.out.1; have h2 := HNL.out; omega)
  have hcx : (cx : Int) ≤ 9223372036854775807 := by have := HXC.out.2; simp only [maxLen] at this; omega
  have hncx : n ≤ cx := by have h1 := HXC.out.1; have h2 := HNL.out; omega
  go_wp2_with fail
  refine (GetB_b (n := n) (by rw [List.length_take]; have := HNL.out; omega) ((HX.out.below K2_7.out).upto n (by have := HNL.out; omega)) (by have h1 := HPS.out; have h2 := HNL.out; omega) (HT.out.below K0_7.out) HCUT.out).mono ?_
  rintro e wk ⟨Ak, ck, Bk, dk, rfl, hvk, hb⟩
  have K0_8 := Lib.hid (below_chain K0_7.out hb)
  have K1_8 := Lib.hid (below_chain K1_7.out hb)
  have K2_8 := Lib.hid (below_chain K2_7.out hb)
  have Km_8 := Lib.hid (below_chain Km_7.out hb)
  have KM_8 := Lib.hid (below_chain KM_7.out hb)
  clear hb hvk hsl
  go_wp2_with (first
    | ((with_reducible show wpList _ _ _ _ _ wk); refine wpList_allocS rfl 31 rfl zc backZero ?_; intro gK waK hk4 hb4 hg4; go_frame; have CA := Lib.hid hk4; have BA := Lib.hid hb4; have GA := Lib.hid hg4; clear hk4 hb4 hg4)
    | ((with_reducible show wpList _ _ _ _ _ waK); refine wpList_storeS rfl 31 _ _ rfl gK rfl (bacCells bacZero (.slice Ak bacZero.data.length ck) (.slice Bk bacZero.names.length dk)) zc rfl CA.out rfl (bac_one rfl rfl) infoBack ?_; intro wbK hk5 ht5; go_frame; have CK := Lib.hid hk5; have BB := Lib.hid (BA.out.trans (ht5.below BA.out.size fun k e => by have := GA.out; omega)); clear hk5 ht5 CA BA GA)
    | fail)
  have K0_9 := Lib.hid (below_chain K0_8.out BB.out)
  have K1_9 := Lib.hid (below_chain K1_8.out BB.out)
  have K2_9 := Lib.hid (below_chain K2_8.out BB.out)
  have Km_9 := Lib.hid (below_chain Km_8.out BB.out)
  have KM_9 := Lib.hid (below_chain KM_8.out BB.out)
  clear BB
  have hcp := Copy_ty pl Ax cx wbK (by have := HPS.out; omega) (HX.out.below K2_9.out).rdB HX.out.nilB
  refine hcp.mono ?_
  clear hcp
  rintro e wc ⟨vc, rfl, hvc, -, hb⟩
  have K0_10 := Lib.hid (below_chain K0_9.out hb)
  have K1_10 := Lib.hid (below_chain K1_9.out hb)
  have K2_10 := Lib.hid (below_chain K2_9.out hb)
  have Km_10 := Lib.hid (below_chain Km_9.out hb)
  have KM_10 := Lib.hid (below_chain KM_9.out hb)
  obtain ⟨Ac, Nc, cc, rfl, -⟩ := own_slice hvc
  have HVC := Lib.hid hvc
  have BC := Lib.hid hb
  clear hb hvc
  go_wp2_with (at_builtin; refine append_to rfl (.tmp 76) (.tmp 77) rfl wbK.heap.size _ _ _ rfl HVC.out A2 l2 l2.length c2 rfl rfl (HV2.out.below K0_10.out).rdB HV2.out.nilB (by have h1 := HPS.out; have h2 := HL2.out; omega) BC.out.size ?_; intro vy wy ho hg hto; obtain ⟨Ay, Ny, cy, rfl, -⟩ := own_slice ho; have HOY := Lib.hid ho; have BY := Lib.hid (below_own BC.out hg HVC.out (Nat.le_refl _) BC.out.size); clear ho hg hto)
  have K0_11 := Lib.hid (below_chain K0_9.out BY.out)
  have K1_11 := Lib.hid (below_chain K1_9.out BY.out)
  have K2_11 := Lib.hid (below_chain K2_9.out BY.out)
  have Km_11 := Lib.hid (below_chain Km_9.out BY.out)
  have KM_11 := Lib.hid (below_chain KM_9.out BY.out)
  have hvy : BsV wy (fun _ => True) (.slice Ay Ny cy) (pl ++ l2) := by
    have h1 := HOY.out
    rw [← List.length_append] at h1
    exact (BsV.own h1).mono fun _ _ _ => trivial
  obtain ⟨-, -, hny⟩ := hvy.capB
  have HVY := Lib.hid hvy
  have HNY := Lib.hid hny
  clear hvy hny
  refine (GetB_b (by rw [HNY.out]) (HVY.out.below (Below.refl _ _)) (by have h0 := HNY.out; rw [List.length_append] at h0; have h1 := HPS.out; have h2 := HL2.out; omega) (HT.out.below K0_11.out) rfl).mono ?_
  generalize hgy : getB (pl ++ l2) = gy at *
  have HGY := Lib.hid hgy
  obtain ⟨yx, ye⟩ := gy
  dsimp only at *
  rintro e wg ⟨Ag, cg, Bg, dg, rfl, hvg, hb⟩
  have K0_12 := Lib.hid (below_chain K0_11.out hb)
  have K1_12 := Lib.hid (below_chain K1_11.out hb)
  have K2_12 := Lib.hid (below_chain K2_11.out hb)
  have Km_12 := Lib.hid (below_chain Km_11.out hb)
  have KM_12 := Lib.hid (below_chain KM_11.out hb)
  have Ky_12 := Lib.hid (hb)
  clear hb hvg hgy
  have hq16 : (ye == 0) = ((l2.length : Int) == 0) := by
    have h1 := HMORE.out
    rw [Bool.eq_iff_iff, beq_iff_eq, beq_iff_eq]
    exact (iff_of_eq h1).trans ⟨fun h => by rw [h]; rfl, fun h => List.eq_nil_of_length_eq_zero (by omega)⟩
  obtain ⟨b16, h16a, h16b⟩ : ∃ b, (ye == 0) = b ∧ ((l2.length : Int) == 0) = b := ⟨_, rfl, hq16.symm⟩
  clear hq16
  go_wp2_with (first
    | ((with_reducible show wpList _ _ _ _ _ wg); refine wpList_allocS rfl 31 rfl zc backZero ?_; intro gG waG hk4 hb4 hg4; go_frame; have CA := Lib.hid hk4; have BA := Lib.hid hb4; have GA := Lib.hid hg4; clear hk4 hb4 hg4)
    | ((with_reducible show wpList _ _ _ _ _ waG); refine wpList_storeS rfl 31 _ _ rfl gG rfl (bacCells yx (.slice Ag yx.data.length cg) (.slice Bg yx.names.length dg)) zc rfl CA.out rfl (bac_one rfl rfl) infoBack ?_; intro wbG hk5 ht5; go_frame; have CG := Lib.hid hk5; have BB := Lib.hid (BA.out.trans (ht5.below BA.out.size fun k e => by have := GA.out; omega)); clear hk5 ht5 CA BA GA)
    | fail)
  have K0_13 := Lib.hid (below_chain K0_12.out BB.out)
  have K1_13 := Lib.hid (below_chain K1_12.out BB.out)
  have K2_13 := Lib.hid (below_chain K2_12.out BB.out)
  have Km_13 := Lib.hid (below_chain Km_12.out BB.out)
  have KM_13 := Lib.hid (below_chain KM_12.out BB.out)
  have Ky_13 := Lib.hid (below_chain Ky_12.out BB.out)
  clear BB
  rcases getB_cases l1 with ⟨hne, hx1⟩ | ⟨hx1, hm1, hp1⟩
  · obtain ⟨er, her⟩ : ∃ er, (getB l1).2 = er := ⟨_, rfl⟩
    rw [her] at hne hx1
    have hne1 : (er != 0) = true := by simpa using hne
    have hne2 : (er == 0) = false := by simpa using hne
    have HX1 := Lib.hid hx1
    clear hne hx1 her
    go_wp2_with fail
    refine (GetB_b rfl (HV1.out.below K0_13.out) (by have := HL1.out; omega) (HT.out.below K0_13.out) HX1.out).mono ?_
    rintro e wq ⟨Aq, cq, Bq, dq, rfl, hvq, hb⟩
    have K0_14 := Lib.hid (below_chain K0_13.out hb)
    have K1_14 := Lib.hid (below_chain K1_13.out hb)
    have K2_14 := Lib.hid (below_chain K2_13.out hb)
    have Km_14 := Lib.hid (below_chain Km_13.out hb)
    have KM_14 := Lib.hid (below_chain KM_13.out hb)
    have Ky_14 := Lib.hid (below_chain Ky_13.out hb)
    have HVQ := Lib.hid hvq
    clear hvq hb
    go_wp2_with (first
      | ((with_reducible show wpList _ _ _ _ _ wq); refine wpList_allocS rfl 31 rfl zc backZero ?_; intro gQ waQ hk4 hb4 hg4; go_frame; have CA := Lib.hid hk4; have BA := Lib.hid hb4; have GA := Lib.hid hg4; clear hk4 hb4 hg4)
      | ((with_reducible show wpList _ _ _ _ _ waQ); refine wpList_storeS rfl 31 _ _ rfl gQ rfl (bacCells bacZero (.slice Aq bacZero.data.length cq) (.slice Bq bacZero.names.length dq)) zc rfl CA.out rfl (bac_one rfl rfl) infoBack ?_; intro wbQ hk5 ht5; go_frame; have CQ := Lib.hid hk5; have BB := Lib.hid (BA.out.trans (ht5.below BA.out.size fun k e => by have := GA.out; omega)); clear hk5 ht5 CA BA GA)
      | ((with_reducible show wpList _ _ _ _ _ wbQ); refine wpList_loadS rfl 31 _ rfl gQ rfl (bacCells bacZero (.slice Aq bacZero.data.length cq) (.slice Bq bacZero.names.length dq)) CQ.out _ Tryd.underlying31 rfl infoBack ?_; go_frame)
      | fail)
    have K0_15 := Lib.hid (below_chain K0_14.out BB.out)
    have K1_15 := Lib.hid (below_chain K1_14.out BB.out)
    have K2_15 := Lib.hid (below_chain K2_14.out BB.out)
    have Km_15 := Lib.hid (below_chain Km_14.out BB.out)
    have KM_15 := Lib.hid (below_chain KM_14.out BB.out)
    have Ky_15 := Lib.hid (below_chain Ky_14.out BB.out)
    have Kq_15 := Lib.hid (BB.out)
    clear BB
    refine (SameR_v (HVQ.out.below Kq_15.out) (bacZ_v _ (fun _ => False))).mono ?_
    rw [sameB_self]
    rintro e wr ⟨rfl, hb⟩
    have K0_16 := Lib.hid (below_chain K0_15.out hb)
    have K1_16 := Lib.hid (below_chain K1_15.out hb)
    have K2_16 := Lib.hid (below_chain K2_15.out hb)
    have Km_16 := Lib.hid (below_chain Km_15.out hb)
    have KM_16 := Lib.hid (below_chain KM_15.out hb)
    have Ky_16 := Lib.hid (below_chain Ky_15.out hb)
    have Kq_16 := Lib.hid (below_chain Kq_15.out hb)
    have KQ_16 := Lib.hid (hb)
    clear hb
    go_wp2_with fail
    refine (lives11_v _ (HT.out.below K0_16.out)).mono ?_
    rintro e wz ⟨rfl, hb⟩
    have K0_17 := Lib.hid (below_chain K0_16.out hb)
    have K1_17 := Lib.hid (below_chain K1_16.out hb)
    have K2_17 := Lib.hid (below_chain K2_16.out hb)
    have Km_17 := Lib.hid (below_chain Km_16.out hb)
    have KM_17 := Lib.hid (below_chain KM_16.out hb)
    have Ky_17 := Lib.hid (below_chain Ky_16.out hb)
    have Kq_17 := Lib.hid (below_chain Kq_16.out hb)
    have KQ_17 := Lib.hid (below_chain KQ_16.out hb)
    clear hb
    go_wp2_with fail
    go_ret
    exact ⟨rfl, K0_17.out⟩
  · generalize (getB l1).1 = x1 at *
    have HX1 := Lib.hid hx1
    have HM1 := Lib.hid hm1
    have HP1 := Lib.hid hp1
    clear hx1 hm1 hp1
    go_wp2_with fail
    refine (GetB_b rfl (HV1.out.below K0_13.out) (by have := HL1.out; omega) (HT.out.below K0_13.out) HX1.out).mono ?_
    rintro e wq ⟨Aq, cq, Bq, dq, rfl, hvq, hb⟩
    have K0_14 := Lib.hid (below_chain K0_13.out hb)
    have K1_14 := Lib.hid (below_chain K1_13.out hb)
    have K2_14 := Lib.hid (below_chain K2_13.out hb)
    have Km_14 := Lib.hid (below_chain Km_13.out hb)
    have KM_14 := Lib.hid (below_chain KM_13.out hb)
    have Ky_14 := Lib.hid (below_chain Ky_13.out hb)
    have HVQ := Lib.hid hvq
    clear hvq hb
    go_wp2_with (first
      | ((with_reducible show wpList _ _ _ _ _ wq); refine wpList_allocS rfl 31 rfl zc backZero ?_; intro gQ waQ hk4 hb4 hg4; go_frame; have CA := Lib.hid hk4; have BA := Lib.hid hb4; have GA := Lib.hid hg4; clear hk4 hb4 hg4)
      | ((with_reducible show wpList _ _ _ _ _ waQ); refine wpList_storeS rfl 31 _ _ rfl gQ rfl (bacCells x1 (.slice Aq x1.data.length cq) (.slice Bq x1.names.length dq)) zc rfl CA.out rfl (bac_one rfl rfl) infoBack ?_; intro wbQ hk5 ht5; go_frame; have CQ := Lib.hid hk5; have BB := Lib.hid (BA.out.trans (ht5.below BA.out.size fun k e => by have := GA.out; omega)); clear hk5 ht5 CA BA GA)
      | ((with_reducible show wpList _ _ _ _ _ wbQ); refine wpList_loadS rfl 31 _ rfl gQ rfl (bacCells x1 (.slice Aq x1.data.length cq) (.slice Bq x1.names.length dq)) CQ.out _ Tryd.underlying31 rfl infoBack ?_; go_frame)
      | fail)
    have K0_15 := Lib.hid (below_chain K0_14.out BB.out)
    have K1_15 := Lib.hid (below_chain K1_14.out BB.out)
    have K2_15 := Lib.hid (below_chain K2_14.out BB.out)
    have Km_15 := Lib.hid (below_chain Km_14.out BB.out)
    have KM_15 := Lib.hid (below_chain KM_14.out BB.out)
    have Ky_15 := Lib.hid (below_chain Ky_14.out BB.out)
    have Kq_15 := Lib.hid (BB.out)
    clear BB
    have hvt : BacV wbQ (· < wbQ.heap.size) x1 (.slice Aq x1.data.length cq) (.slice Bq x1.names.length dq) := by
      have h1 := HVQ.out.below Kq_15.out
      exact h1.mono fun k hk _ => hk
    have HVT := Lib.hid hvt
    clear hvt
    refine (PutB_yes HVT.out (fun k hk => hk) (HT.out.below K0_15.out) HM1.out).mono ?_
    rw [HP1.out]
    rintro e wp ⟨Ap, cpp, rfl, hvp, hb⟩
    have K0_16 := Lib.hid (below_chain K0_15.out hb)
    have K1_16 := Lib.hid (below_chain K1_15.out hb)
    have K2_16 := Lib.hid (below_chain K2_15.out hb)
    have Km_16 := Lib.hid (below_chain Km_15.out hb)
    have KM_16 := Lib.hid (below_chain KM_15.out hb)
    have Ky_16 := Lib.hid (below_chain Ky_15.out hb)
    have Kq_16 := Lib.hid (below_chain Kq_15.out hb)
    have KQ_16 := Lib.hid (hb)
    have HVP := Lib.hid hvp
    clear hvp hb
    have hs := Same_any Ap A1 l1 l1 cpp c1 wp HVP.out.rdB (HV1.out.below K0_16.out).rdB
    rw [beq_self_eq_true] at hs
    go_wp2_with fail
    refine hs.mono ?_
    rintro e wr ⟨rfl, rfl⟩
    clear hs
    go_wp2_with (first
      | ((with_reducible show wpList _ _ _ _ _ wp); refine wpList_loadG (by rfl) 31 (.tmp 18) rfl gQ rfl (bacCells x1 (.slice Aq x1.data.length cq) (.slice Bq x1.names.length dq)) (CQ.out.below KQ_16.out CQ.out.lt) _ Tryd.underlying31 rfl infoBack ?_; go_frame)
      | fail)
    have hmv := May_v (HVQ.out.below Kq_16.out) (HT.out.below K0_16.out)
    rw [HM1.out] at hmv
    refine hmv.mono ?_
    rintro e ws ⟨rfl, hb⟩
    have K0_17 := Lib.hid (below_chain K0_16.out hb)
    have K1_17 := Lib.hid (below_chain K1_16.out hb)
    have K2_17 := Lib.hid (below_chain K2_16.out hb)
    have Km_17 := Lib.hid (below_chain Km_16.out hb)
    have KM_17 := Lib.hid (below_chain KM_16.out hb)
    have Ky_17 := Lib.hid (below_chain Ky_16.out hb)
    have Kq_17 := Lib.hid (below_chain Kq_16.out hb)
    have KQ_17 := Lib.hid (below_chain KQ_16.out hb)
    have Kp_17 := Lib.hid (hb)
    clear hb hmv
    go_wp2_with fail
    refine (lives11_v _ (HT.out.below K0_17.out)).mono ?_
    rintro e wz ⟨rfl, hb⟩
    have K0_18 := Lib.hid (below_chain K0_17.out hb)
    have K1_18 := Lib.hid (below_chain K1_17.out hb)
    have K2_18 := Lib.hid (below_chain K2_17.out hb)
    have Km_18 := Lib.hid (below_chain Km_17.out hb)
    have KM_18 := Lib.hid (below_chain KM_17.out hb)
    have Ky_18 := Lib.hid (below_chain Ky_17.out hb)
    have Kq_18 := Lib.hid (below_chain Kq_17.out hb)
    have KQ_18 := Lib.hid (below_chain KQ_17.out hb)
    have Kp_18 := Lib.hid (below_chain Kp_17.out hb)
    clear hb
    go_wp2_with fail
    go_ret
    exact ⟨rfl, K0_18.out⟩
set_option maxHeartbeats 16000000 in
theorem back11_out (c : BackX) (va ua : Value) (l1 : List UInt8) (A1 : Option Addr) (c1 : Nat) (l2 : List UInt8) (A2 : Option Addr) (c2 : Nat) (cut : Int) (w : World) (hT : Tabs w) (hc : BacV w (· < w.heap.size) c va ua) (hcl : c.data.length ≤ 140737488351232)
    (hl1 : l1.length ≤ 140737488351232) (rd1 : Rd w A1 l1) (hlc1 : l1.length ≤ c1) (hcm1 : c1 ≤ maxLen) (nil1 : A1 = none → l1 = [] ∧ c1 = 0)
    (hl2 : l2.length ≤ 140737488351232) (rd2 : Rd w A2 l2) (hlc2 : l2.length ≤ c2) (hcm2 : c2 ≤ maxLen) (nil2 : A2 = none → l2 = [] ∧ c2 = 0) (lo3 : -9223372036854775808 ≤ cut) (hi3 : cut ≤ 9223372036854775807) (hn1 : c.names.length ≤ 100) (hm : mayB c = true) (hcut : ¬ (0 ≤ cut ∧ cut < ((putB c).length : Int))) :
    Calls Tryd.prog 4 #[.agg (bacCells c va ua).toArray, .slice A1 l1.length c1, .slice A2 l2.length c2, .int .i64 cut] w fun e w' => e = .returned (.bool true) ∧ Below w.heap.size w w' := by
  obtain ⟨A, cp, rfl, -⟩ := id hc.1
  obtain ⟨B, dp, rfl, -⟩ := id hc.2.1
  have HV1 := Lib.hid (show BsV w (· < w.heap.size) (.slice A1 l1.length c1) l1 from ⟨A1, c1, rfl, rd1.f fun b off e hlt => hlt, nil1, hlc1, hcm1⟩)
  have HV2 := Lib.hid (show BsV w (· < w.heap.size) (.slice A2 l2.length c2) l2 from ⟨A2, c2, rfl, rd2.f fun b off e hlt => hlt, nil2, hlc2, hcm2⟩)
  have HCV := Lib.hid hc
  have HT := Lib.hid hT
  have HL1 := Lib.hid hl1
  have HL2 := Lib.hid hl2
  have hN1 : l1.length ≤ 9223372036854775807 := by omega
  have hN2 : l2.length ≤ 9223372036854775807 := by omega
  clear hc hT hl1 rd1 hlc1 hcm1 nil1 hl2 rd2 hlc2 hcm2 nil2 hcl
  have hn1' : (c.names.length : Int) ≤ 100 := by omega
  have hps := putB_small hm
  have hfull : getB (putB c) = (c, 0) := by
    have h := putB_get HCV.out.2.2 hm [] (by rw [List.append_nil]; omega)
    rwa [List.append_nil, if_pos rfl] at h
  have hmore := putB_more HCV.out.2.2 hm l2
  have hpy := fun (u : World) (g : BacV u (· < u.heap.size) c (.slice A c.data.length cp) (.slice B c.names.length dp)) (t : Tabs u) => PutB_yes g (fun k hk => hk) t hm
  generalize hpl : putB c = pl at *
  have HM := Lib.hid hm
  have HPS := Lib.hid hps
  have HFULL := Lib.hid hfull
  have HMORE := Lib.hid hmore
  have HPY := Lib.hid hpy
  clear hm hn1 hps hfull hmore hpy hpl
  go_enter Tryd.func4, Tryd.ntmps4
  go_wp2_with (first
    | ((with_reducible show wpList _ _ _ _ _ w); refine wpList_boxS rfl 31 _ rfl (bacCells c (.slice A c.data.length cp) (.slice B c.names.length dp)) rfl ?_; intro g1 w1 hk1 hb1 hg1; go_frame; have C1 := Lib.hid hk1; have B1 := Lib.hid hb1; have pa : w1.cell? ⟨g1, 11, none⟩ = some (.slice B c.names.length dp) := C1.out.cell 11 rfl; clear hk1 hb1 hg1)
    | ((with_reducible show wpList _ _ _ _ _ w1); refine wpList_loadS rfl 31 _ rfl g1 rfl (bacCells c (.slice A c.data.length cp) (.slice B c.names.length dp)) C1.out _ Tryd.underlying31 rfl infoBack ?_; go_frame)
    | fail)
  have K0_1 := Lib.hid (B1.out)
  refine (HPY.out w1 ((HCV.out.below K0_1.out).mono fun k hk _ => hk) (HT.out.below K0_1.out)).mono ?_
  rintro e w2 ⟨Ax, cx, rfl, hx, hb⟩
  have K0_2 := Lib.hid (below_chain K0_1.out hb)
  have K1_2 := Lib.hid (hb)
  obtain ⟨hxc, hxm, -⟩ := hx.capB
  have HX := Lib.hid hx
  have HXC := Lib.hid (And.intro hxc hxm)
  clear hx hb pa hxc hxm
  go_wp2_with (first
    | ((with_reducible show wpList _ _ _ _ _ w2); refine wpList_loadS rfl 31 _ rfl g1 rfl (bacCells c (.slice A c.data.length cp) (.slice B c.names.length dp)) (C1.out.below K1_2.out C1.out.lt) _ Tryd.underlying31 rfl infoBack ?_; go_frame)
    | fail)
  have hmv := May_v (HCV.out.below K0_2.out) (HT.out.below K0_2.out)
  rw [HM.out] at hmv
  refine hmv.mono ?_
  rintro e w3 ⟨rfl, hb⟩
  have K0_3 := Lib.hid (below_chain K0_2.out hb)
  have K1_3 := Lib.hid (below_chain K1_2.out hb)
  have K2_3 := Lib.hid (hb)
  clear hb hmv
  go_wp2_with fail
  refine (GetB_b rfl (HX.out.below K2_3.out) (by have := HPS.out; omega) (HT.out.below K0_3.out) HFULL.out).mono ?_
  rintro e wm ⟨Am, cm, Bm, dm, rfl, hvm, hb⟩
  have K0_4 := Lib.hid (below_chain K0_3.out hb)
  have K1_4 := Lib.hid (below_chain K1_3.out hb)
  have K2_4 := Lib.hid (below_chain K2_3.out hb)
  have HVM := Lib.hid hvm
  clear hvm hb
  go_wp2_with (first
    | ((with_reducible show wpList _ _ _ _ _ wm); refine wpList_allocS rfl 31 rfl zc backZero ?_; intro gM waM hk4 hb4 hg4; go_frame; have CA := Lib.hid hk4; have BA := Lib.hid hb4; have GA := Lib.hid hg4; clear hk4 hb4 hg4)
    | ((with_reducible show wpList _ _ _ _ _ waM); refine wpList_storeS rfl 31 _ _ rfl gM rfl (bacCells c (.slice Am c.data.length cm) (.slice Bm c.names.length dm)) zc rfl CA.out rfl (bac_one rfl rfl) infoBack ?_; intro wbM hk5 ht5; go_frame; have CM := Lib.hid hk5; have BB := Lib.hid (BA.out.trans (ht5.below BA.out.size fun k e => by have := GA.out; omega)); have C1b := Lib.hid (C1.out.below (below_chain K1_4.out BB.out) C1.out.lt); clear hk5 ht5 CA BA GA)
    | ((with_reducible show wpList _ _ _ _ _ wbM); refine wpList_loadG (by rfl) 31 (.tmp 11) rfl gM rfl (bacCells c (.slice Am c.data.length cm) (.slice Bm c.names.length dm)) CM.out _ Tryd.underlying31 rfl infoBack ?_; go_frame)
    | ((with_reducible show wpList _ _ _ _ _ wbM); refine wpList_loadG (by rfl) 31 (.tmp 4) rfl g1 rfl (bacCells c (.slice A c.data.length cp) (.slice B c.names.length dp)) C1b.out _ Tryd.underlying31 rfl infoBack ?_; go_frame)
    | fail)
  have K0_5 := Lib.hid (below_chain K0_4.out BB.out)
  have K1_5 := Lib.hid (below_chain K1_4.out BB.out)
  have K2_5 := Lib.hid (below_chain K2_4.out BB.out)
  have Km_5 := Lib.hid (BB.out)
  clear BB
  have hs := Same_v (HVM.out.below Km_5.out) (HCV.out.below K0_5.out)
  rw [sameB_self] at hs
  refine hs.mono ?_
  rintro e w7 ⟨rfl, hb⟩
  have K0_6 := Lib.hid (below_chain K0_5.out hb)
  have K1_6 := Lib.hid (below_chain K1_5.out hb)
  have K2_6 := Lib.hid (below_chain K2_5.out hb)
  have Km_6 := Lib.hid (below_chain Km_5.out hb)
  have KM_6 := Lib.hid (hb)
  clear hb hs
  go_wp2_with (first
    | ((with_reducible show wpList _ _ _ _ _ w7); refine wpList_loadG (by rfl) 31 (.tmp 11) rfl gM rfl (bacCells c (.slice Am c.data.length cm) (.slice Bm c.names.length dm)) (CM.out.below KM_6.out CM.out.lt) _ Tryd.underlying31 rfl infoBack ?_; go_frame)
    | ((with_reducible show wpList _ _ _ _ _ w7); refine wpList_loadG (by rfl) 31 (.tmp 4) rfl g1 rfl (bacCells c (.slice A c.data.length cp) (.slice B c.names.length dp)) (C1.out.below K1_6.out C1.out.lt) _ Tryd.underlying31 rfl infoBack ?_; go_frame)
    | fail)
  have hs := SameR_v (HVM.out.below Km_6.out) (HCV.out.below K0_6.out)
  rw [sameB_self] at hs
  refine hs.mono ?_
  rintro e w8 ⟨rfl, hb⟩
  have K0_7 := Lib.hid (below_chain K0_6.out hb)
  have K1_7 := Lib.hid (below_chain K1_6.out hb)
  have K2_7 := Lib.hid (below_chain K2_6.out hb)
  have Km_7 := Lib.hid (below_chain Km_6.out hb)
  have KM_7 := Lib.hid (below_chain KM_6.out hb)
  clear hb hs
  have hcut' : cut < 0 ∨ (0 ≤ cut ∧ (pl.length : Int) ≤ cut) := by omega
  clear hcut
  rcases hcut' with hq | ⟨hq1, hq2⟩
  ·
    have hd1 : decide (0 ≤ cut) = false := decide_eq_false (by omega)
    go_wp2_with fail
    have hcp := Copy_ty pl Ax cx w8 (by have := HPS.out; omega) (HX.out.below K2_7.out).rdB HX.out.nilB
    refine hcp.mono ?_
    clear hcp
    rintro e wc ⟨vc, rfl, hvc, -, hb⟩
    have K0_8 := Lib.hid (below_chain K0_7.out hb)
    have K1_8 := Lib.hid (below_chain K1_7.out hb)
    have K2_8 := Lib.hid (below_chain K2_7.out hb)
    have Km_8 := Lib.hid (below_chain Km_7.out hb)
    have KM_8 := Lib.hid (below_chain KM_7.out hb)
    obtain ⟨Ac, Nc, cc, rfl, -⟩ := own_slice hvc
    have HVC := Lib.hid hvc
    have BC := Lib.hid hb
    clear hb hvc
    go_wp2_with (at_builtin; refine append_to rfl (.tmp 76) (.tmp 77) rfl w8.heap.size _ _ _ rfl HVC.out A2 l2 l2.length c2 rfl rfl (HV2.out.below K0_8.out).rdB HV2.out.nilB (by have h1 := HPS.out; have h2 := HL2.out; omega) BC.out.size ?_; intro vy wy ho hg hto; obtain ⟨Ay, Ny, cy, rfl, -⟩ := own_slice ho; have HOY := Lib.hid ho; have BY := Lib.hid (below_own BC.out hg HVC.out (Nat.le_refl _) BC.out.size); clear ho hg hto)
    have K0_9 := Lib.hid (below_chain K0_7.out BY.out)
    have K1_9 := Lib.hid (below_chain K1_7.out BY.out)
    have K2_9 := Lib.hid (below_chain K2_7.out BY.out)
    have Km_9 := Lib.hid (below_chain Km_7.out BY.out)
    have KM_9 := Lib.hid (below_chain KM_7.out BY.out)
    have hvy : BsV wy (fun _ => True) (.slice Ay Ny cy) (pl ++ l2) := by
      have h1 := HOY.out
      rw [← List.length_append] at h1
      exact (BsV.own h1).mono fun _ _ _ => trivial
    obtain ⟨-, -, hny⟩ := hvy.capB
    have HVY := Lib.hid hvy
    have HNY := Lib.hid hny
    clear hvy hny
    refine (GetB_b (by rw [HNY.out]) (HVY.out.below (Below.refl _ _)) (by have h0 := HNY.out; rw [List.length_append] at h0; have h1 := HPS.out; have h2 := HL2.out; omega) (HT.out.below K0_9.out) rfl).mono ?_
    generalize hgy : getB (pl ++ l2) = gy at *
    have HGY := Lib.hid hgy
    obtain ⟨yx, ye⟩ := gy
    dsimp only at *
    rintro e wg ⟨Ag, cg, Bg, dg, rfl, hvg, hb⟩
    have K0_10 := Lib.hid (below_chain K0_9.out hb)
    have K1_10 := Lib.hid (below_chain K1_9.out hb)
    have K2_10 := Lib.hid (below_chain K2_9.out hb)
    have Km_10 := Lib.hid (below_chain Km_9.out hb)
    have KM_10 := Lib.hid (below_chain KM_9.out hb)
    have Ky_10 := Lib.hid (hb)
    clear hb hvg hgy
    have hq16 : (ye == 0) = ((l2.length : Int) == 0) := by
      have h1 := HMORE.out
      rw [Bool.eq_iff_iff, beq_iff_eq, beq_iff_eq]
      exact (iff_of_eq h1).trans ⟨fun h => by rw [h]; rfl, fun h => List.eq_nil_of_length_eq_zero (by omega)⟩
    obtain ⟨b16, h16a, h16b⟩ : ∃ b, (ye == 0) = b ∧ ((l2.length : Int) == 0) = b := ⟨_, rfl, hq16.symm⟩
    clear hq16
    go_wp2_with (first
      | ((with_reducible show wpList _ _ _ _ _ wg); refine wpList_allocS rfl 31 rfl zc backZero ?_; intro gG waG hk4 hb4 hg4; go_frame; have CA := Lib.hid hk4; have BA := Lib.hid hb4; have GA := Lib.hid hg4; clear hk4 hb4 hg4)
      | ((with_reducible show wpList _ _ _ _ _ waG); refine wpList_storeS rfl 31 _ _ rfl gG rfl (bacCells yx (.slice Ag yx.data.length cg) (.slice Bg yx.names.length dg)) zc rfl CA.out rfl (bac_one rfl rfl) infoBack ?_; intro wbG hk5 ht5; go_frame; have CG := Lib.hid hk5; have BB := Lib.hid (BA.out.trans (ht5.below BA.out.size fun k e => by have := GA.out; omega)); clear hk5 ht5 CA BA GA)
      | fail)
    have K0_11 := Lib.hid (below_chain K0_10.out BB.out)
    have K1_11 := Lib.hid (below_chain K1_10.out BB.out)
    have K2_11 := Lib.hid (below_chain K2_10.out BB.out)
    have Km_11 := Lib.hid (below_chain Km_10.out BB.out)
    have KM_11 := Lib.hid (below_chain KM_10.out BB.out)
    have Ky_11 := Lib.hid (below_chain Ky_10.out BB.out)
    clear BB
    rcases getB_cases l1 with ⟨hne, hx1⟩ | ⟨hx1, hm1, hp1⟩
    · obtain ⟨er, her⟩ : ∃ er, (getB l1).2 = er := ⟨_, rfl⟩
      rw [her] at hne hx1
      have hne1 : (er != 0) = true := by simpa using hne
      have hne2 : (er == 0) = false := by simpa using hne
      have HX1 := Lib.hid hx1
      clear hne hx1 her
      go_wp2_with fail
      refine (GetB_b rfl (HV1.out.below K0_11.out) (by have := HL1.out; omega) (HT.out.below K0_11.out) HX1.out).mono ?_
      rintro e wq ⟨Aq, cq, Bq, dq, rfl, hvq, hb⟩
      have K0_12 := Lib.hid (below_chain K0_11.out hb)
      have K1_12 := Lib.hid (below_chain K1_11.out hb)
      have K2_12 := Lib.hid (below_chain K2_11.out hb)
      have Km_12 := Lib.hid (below_chain Km_11.out hb)
      have KM_12 := Lib.hid (below_chain KM_11.out hb)
      have Ky_12 := Lib.hid (below_chain Ky_11.out hb)
      have HVQ := Lib.hid hvq
      clear hvq hb
      go_wp2_with (first
        | ((with_reducible show wpList _ _ _ _ _ wq); refine wpList_allocS rfl 31 rfl zc backZero ?_; intro gQ waQ hk4 hb4 hg4; go_frame; have CA := Lib.hid hk4; have BA := Lib.hid hb4; have GA := Lib.hid hg4; clear hk4 hb4 hg4)
        | ((with_reducible show wpList _ _ _ _ _ waQ); refine wpList_storeS rfl 31 _ _ rfl gQ rfl (bacCells bacZero (.slice Aq bacZero.data.length cq) (.slice Bq bacZero.names.length dq)) zc rfl CA.out rfl (bac_one rfl rfl) infoBack ?_; intro wbQ hk5 ht5; go_frame; have CQ := Lib.hid hk5; have BB := Lib.hid (BA.out.trans (ht5.below BA.out.size fun k e => by have := GA.out; omega)); clear hk5 ht5 CA BA GA)
        | ((with_reducible show wpList _ _ _ _ _ wbQ); refine wpList_loadS rfl 31 _ rfl gQ rfl (bacCells bacZero (.slice Aq bacZero.data.length cq) (.slice Bq bacZero.names.length dq)) CQ.out _ Tryd.underlying31 rfl infoBack ?_; go_frame)
        | fail)
      have K0_13 := Lib.hid (below_chain K0_12.out BB.out)
      have K1_13 := Lib.hid (below_chain K1_12.out BB.out)
      have K2_13 := Lib.hid (below_chain K2_12.out BB.out)
      have Km_13 := Lib.hid (below_chain Km_12.out BB.out)
      have KM_13 := Lib.hid (below_chain KM_12.out BB.out)
      have Ky_13 := Lib.hid (below_chain Ky_12.out BB.out)
      have Kq_13 := Lib.hid (BB.out)
      clear BB
      refine (SameR_v (HVQ.out.below Kq_13.out) (bacZ_v _ (fun _ => False))).mono ?_
      rw [sameB_self]
      rintro e wr ⟨rfl, hb⟩
      have K0_14 := Lib.hid (below_chain K0_13.out hb)
      have K1_14 := Lib.hid (below_chain K1_13.out hb)
      have K2_14 := Lib.hid (below_chain K2_13.out hb)
      have Km_14 := Lib.hid (below_chain Km_13.out hb)
      have KM_14 := Lib.hid (below_chain KM_13.out hb)
      have Ky_14 := Lib.hid (below_chain Ky_13.out hb)
      have Kq_14 := Lib.hid (below_chain Kq_13.out hb)
      have KQ_14 := Lib.hid (hb)
      clear hb
      go_wp2_with fail
      refine (lives11_v _ (HT.out.below K0_14.out)).mono ?_
      rintro e wz ⟨rfl, hb⟩
      have K0_15 := Lib.hid (below_chain K0_14.out hb)
      have K1_15 := Lib.hid (below_chain K1_14.out hb)
      have K2_15 := Lib.hid (below_chain K2_14.out hb)
      have Km_15 := Lib.hid (below_chain Km_14.out hb)
      have KM_15 := Lib.hid (below_chain KM_14.out hb)
      have Ky_15 := Lib.hid (below_chain Ky_14.out hb)
      have Kq_15 := Lib.hid (below_chain Kq_14.out hb)
      have KQ_15 := Lib.hid (below_chain KQ_14.out hb)
      clear hb
      go_wp2_with fail
      go_ret
      exact ⟨rfl, K0_15.out⟩
    · generalize (getB l1).1 = x1 at *
      have HX1 := Lib.hid hx1
      have HM1 := Lib.hid hm1
      have HP1 := Lib.hid hp1
      clear hx1 hm1 hp1
      go_wp2_with fail
      refine (GetB_b rfl (HV1.out.below K0_11.out) (by have := HL1.out; omega) (HT.out.below K0_11.out) HX1.out).mono ?_
      rintro e wq ⟨Aq, cq, Bq, dq, rfl, hvq, hb⟩
      have K0_12 := Lib.hid (below_chain K0_11.out hb)
      have K1_12 := Lib.hid (below_chain K1_11.out hb)
      have K2_12 := Lib.hid (below_chain K2_11.out hb)
      have Km_12 := Lib.hid (below_chain Km_11.out hb)
      have KM_12 := Lib.hid (below_chain KM_11.out hb)
      have Ky_12 := Lib.hid (below_chain Ky_11.out hb)
      have HVQ := Lib.hid hvq
      clear hvq hb
      go_wp2_with (first
        | ((with_reducible show wpList _ _ _ _ _ wq); refine wpList_allocS rfl 31 rfl zc backZero ?_; intro gQ waQ hk4 hb4 hg4; go_frame; have CA := Lib.hid hk4; have BA := Lib.hid hb4; have GA := Lib.hid hg4; clear hk4 hb4 hg4)
        | ((with_reducible show wpList _ _ _ _ _ waQ); refine wpList_storeS rfl 31 _ _ rfl gQ rfl (bacCells x1 (.slice Aq x1.data.length cq) (.slice Bq x1.names.length dq)) zc rfl CA.out rfl (bac_one rfl rfl) infoBack ?_; intro wbQ hk5 ht5; go_frame; have CQ := Lib.hid hk5; have BB := Lib.hid (BA.out.trans (ht5.below BA.out.size fun k e => by have := GA.out; omega)); clear hk5 ht5 CA BA GA)
        | ((with_reducible show wpList _ _ _ _ _ wbQ); refine wpList_loadS rfl 31 _ rfl gQ rfl (bacCells x1 (.slice Aq x1.data.length cq) (.slice Bq x1.names.length dq)) CQ.out _ Tryd.underlying31 rfl infoBack ?_; go_frame)
        | fail)
      have K0_13 := Lib.hid (below_chain K0_12.out BB.out)
      have K1_13 := Lib.hid (below_chain K1_12.out BB.out)
      have K2_13 := Lib.hid (below_chain K2_12.out BB.out)
      have Km_13 := Lib.hid (below_chain Km_12.out BB.out)
      have KM_13 := Lib.hid (below_chain KM_12.out BB.out)
      have Ky_13 := Lib.hid (below_chain Ky_12.out BB.out)
      have Kq_13 := Lib.hid (BB.out)
      clear BB
      have hvt : BacV wbQ (· < wbQ.heap.size) x1 (.slice Aq x1.data.length cq) (.slice Bq x1.names.length dq) := by
        have h1 := HVQ.out.below Kq_13.out
        exact h1.mono fun k hk _ => hk
      have HVT := Lib.hid hvt
      clear hvt
      refine (PutB_yes HVT.out (fun k hk => hk) (HT.out.below K0_13.out) HM1.out).mono ?_
      rw [HP1.out]
      rintro e wp ⟨Ap, cpp, rfl, hvp, hb⟩
      have K0_14 := Lib.hid (below_chain K0_13.out hb)
      have K1_14 := Lib.hid (below_chain K1_13.out hb)
      have K2_14 := Lib.hid (below_chain K2_13.out hb)
      have Km_14 := Lib.hid (below_chain Km_13.out hb)
      have KM_14 := Lib.hid (below_chain KM_13.out hb)
      have Ky_14 := Lib.hid (below_chain Ky_13.out hb)
      have Kq_14 := Lib.hid (below_chain Kq_13.out hb)
      have KQ_14 := Lib.hid (hb)
      have HVP := Lib.hid hvp
      clear hvp hb
      have hs := Same_any Ap A1 l1 l1 cpp c1 wp HVP.out.rdB (HV1.out.below K0_14.out).rdB
      rw [beq_self_eq_true] at hs
      go_wp2_with fail
      refine hs.mono ?_
      rintro e wr ⟨rfl, rfl⟩
      clear hs
      go_wp2_with (first
        | ((with_reducible show wpList _ _ _ _ _ wp); refine wpList_loadG (by rfl) 31 (.tmp 18) rfl gQ rfl (bacCells x1 (.slice Aq x1.data.length cq) (.slice Bq x1.names.length dq)) (CQ.out.below KQ_14.out CQ.out.lt) _ Tryd.underlying31 rfl infoBack ?_; go_frame)
        | fail)
      have hmv := May_v (HVQ.out.below Kq_14.out) (HT.out.below K0_14.out)
      rw [HM1.out] at hmv
      refine hmv.mono ?_
      rintro e ws ⟨rfl, hb⟩
      have K0_15 := Lib.hid (below_chain K0_14.out hb)
      have K1_15 := Lib.hid (below_chain K1_14.out hb)
      have K2_15 := Lib.hid (below_chain K2_14.out hb)
      have Km_15 := Lib.hid (below_chain Km_14.out hb)
      have KM_15 := Lib.hid (below_chain KM_14.out hb)
      have Ky_15 := Lib.hid (below_chain Ky_14.out hb)
      have Kq_15 := Lib.hid (below_chain Kq_14.out hb)
      have KQ_15 := Lib.hid (below_chain KQ_14.out hb)
      have Kp_15 := Lib.hid (hb)
      clear hb hmv
      go_wp2_with fail
      refine (lives11_v _ (HT.out.below K0_15.out)).mono ?_
      rintro e wz ⟨rfl, hb⟩
      have K0_16 := Lib.hid (below_chain K0_15.out hb)
      have K1_16 := Lib.hid (below_chain K1_15.out hb)
      have K2_16 := Lib.hid (below_chain K2_15.out hb)
      have Km_16 := Lib.hid (below_chain Km_15.out hb)
      have KM_16 := Lib.hid (below_chain KM_15.out hb)
      have Ky_16 := Lib.hid (below_chain Ky_15.out hb)
      have Kq_16 := Lib.hid (below_chain Kq_15.out hb)
      have KQ_16 := Lib.hid (below_chain KQ_15.out hb)
      have Kp_16 := Lib.hid (below_chain Kp_15.out hb)
      clear hb
      go_wp2_with fail
      go_ret
      exact ⟨rfl, K0_16.out⟩
  ·
    have hd1 : decide (0 ≤ cut) = true := decide_eq_true (by omega)
    have hd2 : decide (cut < (pl.length : Int)) = false := decide_eq_false (by omega)
    go_wp2_with fail
    have hcp := Copy_ty pl Ax cx w8 (by have := HPS.out; omega) (HX.out.below K2_7.out).rdB HX.out.nilB
    refine hcp.mono ?_
    clear hcp
    rintro e wc ⟨vc, rfl, hvc, -, hb⟩
    have K0_8 := Lib.hid (below_chain K0_7.out hb)
    have K1_8 := Lib.hid (below_chain K1_7.out hb)
    have K2_8 := Lib.hid (below_chain K2_7.out hb)
    have Km_8 := Lib.hid (below_chain Km_7.out hb)
    have KM_8 := Lib.hid (below_chain KM_7.out hb)
    obtain ⟨Ac, Nc, cc, rfl, -⟩ := own_slice hvc
    have HVC := Lib.hid hvc
    have BC := Lib.hid hb
    clear hb hvc
    go_wp2_with (at_builtin; refine append_to rfl (.tmp 76) (.tmp 77) rfl w8.heap.size _ _ _ rfl HVC.out A2 l2 l2.length c2 rfl rfl (HV2.out.below K0_8.out).rdB HV2.out.nilB (by have h1 := HPS.out; have h2 := HL2.out; omega) BC.out.size ?_; intro vy wy ho hg hto; obtain ⟨Ay, Ny, cy, rfl, -⟩ := own_slice ho; have HOY := Lib.hid ho; have BY := Lib.hid (below_own BC.out hg HVC.out (Nat.le_refl _) BC.out.size); clear ho hg hto)
    have K0_9 := Lib.hid (below_chain K0_7.out BY.out)
    have K1_9 := Lib.hid (below_chain K1_7.out BY.out)
    have K2_9 := Lib.hid (below_chain K2_7.out BY.out)
    have Km_9 := Lib.hid (below_chain Km_7.out BY.out)
    have KM_9 := Lib.hid (below_chain KM_7.out BY.out)
    have hvy : BsV wy (fun _ => True) (.slice Ay Ny cy) (pl ++ l2) := by
      have h1 := HOY.out
      rw [← List.length_append] at h1
      exact (BsV.own h1).mono fun _ _ _ => trivial
    obtain ⟨-, -, hny⟩ := hvy.capB
    have HVY := Lib.hid hvy
    have HNY := Lib.hid hny
    clear hvy hny
    refine (GetB_b (by rw [HNY.out]) (HVY.out.below (Below.refl _ _)) (by have h0 := HNY.out; rw [List.length_append] at h0; have h1 := HPS.out; have h2 := HL2.out; omega) (HT.out.below K0_9.out) rfl).mono ?_
    generalize hgy : getB (pl ++ l2) = gy at *
    have HGY := Lib.hid hgy
    obtain ⟨yx, ye⟩ := gy
    dsimp only at *
    rintro e wg ⟨Ag, cg, Bg, dg, rfl, hvg, hb⟩
    have K0_10 := Lib.hid (below_chain K0_9.out hb)
    have K1_10 := Lib.hid (below_chain K1_9.out hb)
    have K2_10 := Lib.hid (below_chain K2_9.out hb)
    have Km_10 := Lib.hid (below_chain Km_9.out hb)
    have KM_10 := Lib.hid (below_chain KM_9.out hb)
    have Ky_10 := Lib.hid (hb)
    clear hb hvg hgy
    have hq16 : (ye == 0) = ((l2.length : Int) == 0) := by
      have h1 := HMORE.out
      rw [Bool.eq_iff_iff, beq_iff_eq, beq_iff_eq]
      exact (iff_of_eq h1).trans ⟨fun h => by rw [h]; rfl, fun h => List.eq_nil_of_length_eq_zero (by omega)⟩
    obtain ⟨b16, h16a, h16b⟩ : ∃ b, (ye == 0) = b ∧ ((l2.length : Int) == 0) = b := ⟨_, rfl, hq16.symm⟩
    clear hq16
    go_wp2_with (first
      | ((with_reducible show wpList _ _ _ _ _ wg); refine wpList_allocS rfl 31 rfl zc backZero ?_; intro gG waG hk4 hb4 hg4; go_frame; have CA := Lib.hid hk4; have BA := Lib.hid hb4; have GA := Lib.hid hg4; clear hk4 hb4 hg4)
      | ((with_reducible show wpList _ _ _ _ _ waG); refine wpList_storeS rfl 31 _ _ rfl gG rfl (bacCells yx (.slice Ag yx.data.length cg) (.slice Bg yx.names.length dg)) zc rfl CA.out rfl (bac_one rfl rfl) infoBack ?_; intro wbG hk5 ht5; go_frame; have CG := Lib.hid hk5; have BB := Lib.hid (BA.out.trans (ht5.below BA.out.size fun k e => by have := GA.out; omega)); clear hk5 ht5 CA BA GA)
      | fail)
    have K0_11 := Lib.hid (below_chain K0_10.out BB.out)
    have K1_11 := Lib.hid (below_chain K1_10.out BB.out)
    have K2_11 := Lib.hid (below_chain K2_10.out BB.out)
    have Km_11 := Lib.hid (below_chain Km_10.out BB.out)
    have KM_11 := Lib.hid (below_chain KM_10.out BB.out)
    have Ky_11 := Lib.hid (below_chain Ky_10.out BB.out)
    clear BB
    rcases getB_cases l1 with ⟨hne, hx1⟩ | ⟨hx1, hm1, hp1⟩
    · obtain ⟨er, her⟩ : ∃ er, (getB l1).2 = er := ⟨_, rfl⟩
      rw [her] at hne hx1
      have hne1 : (er != 0) = true := by simpa using hne
      have hne2 : (er == 0) = false := by simpa using hne
      have HX1 := Lib.hid hx1
      clear hne hx1 her
      go_wp2_with fail
      refine (GetB_b rfl (HV1.out.below K0_11.out) (by have := HL1.out; omega) (HT.out.below K0_11.out) HX1.out).mono ?_
      rintro e wq ⟨Aq, cq, Bq, dq, rfl, hvq, hb⟩
      have K0_12 := Lib.hid (below_chain K0_11.out hb)
      have K1_12 := Lib.hid (below_chain K1_11.out hb)
      have K2_12 := Lib.hid (below_chain K2_11.out hb)
      have Km_12 := Lib.hid (below_chain Km_11.out hb)
      have KM_12 := Lib.hid (below_chain KM_11.out hb)
      have Ky_12 := Lib.hid (below_chain Ky_11.out hb)
      have HVQ := Lib.hid hvq
      clear hvq hb
      go_wp2_with (first
        | ((with_reducible show wpList _ _ _ _ _ wq); refine wpList_allocS rfl 31 rfl zc backZero ?_; intro gQ waQ hk4 hb4 hg4; go_frame; have CA := Lib.hid hk4; have BA := Lib.hid hb4; have GA := Lib.hid hg4; clear hk4 hb4 hg4)
        | ((with_reducible show wpList _ _ _ _ _ waQ); refine wpList_storeS rfl 31 _ _ rfl gQ rfl (bacCells bacZero (.slice Aq bacZero.data.length cq) (.slice Bq bacZero.names.length dq)) zc rfl CA.out rfl (bac_one rfl rfl) infoBack ?_; intro wbQ hk5 ht5; go_frame; have CQ := Lib.hid hk5; have BB := Lib.hid (BA.out.trans (ht5.below BA.out.size fun k e => by have := GA.out; omega)); clear hk5 ht5 CA BA GA)
        | ((with_reducible show wpList _ _ _ _ _ wbQ); refine wpList_loadS rfl 31 _ rfl gQ rfl (bacCells bacZero (.slice Aq bacZero.data.length cq) (.slice Bq bacZero.names.length dq)) CQ.out _ Tryd.underlying31 rfl infoBack ?_; go_frame)
        | fail)
      have K0_13 := Lib.hid (below_chain K0_12.out BB.out)
      have K1_13 := Lib.hid (below_chain K1_12.out BB.out)
      have K2_13 := Lib.hid (below_chain K2_12.out BB.out)
      have Km_13 := Lib.hid (below_chain Km_12.out BB.out)
      have KM_13 := Lib.hid (below_chain KM_12.out BB.out)
      have Ky_13 := Lib.hid (below_chain Ky_12.out BB.out)
      have Kq_13 := Lib.hid (BB.out)
      clear BB
      refine (SameR_v (HVQ.out.below Kq_13.out) (bacZ_v _ (fun _ => False))).mono ?_
      rw [sameB_self]
      rintro e wr ⟨rfl, hb⟩
      have K0_14 := Lib.hid (below_chain K0_13.out hb)
      have K1_14 := Lib.hid (below_chain K1_13.out hb)
      have K2_14 := Lib.hid (below_chain K2_13.out hb)
      have Km_14 := Lib.hid (below_chain Km_13.out hb)
      have KM_14 := Lib.hid (below_chain KM_13.out hb)
      have Ky_14 := Lib.hid (below_chain Ky_13.out hb)
      have Kq_14 := Lib.hid (below_chain Kq_13.out hb)
      have KQ_14 := Lib.hid (hb)
      clear hb
      go_wp2_with fail
      refine (lives11_v _ (HT.out.below K0_14.out)).mono ?_
      rintro e wz ⟨rfl, hb⟩
      have K0_15 := Lib.hid (below_chain K0_14.out hb)
      have K1_15 := Lib.hid (below_chain K1_14.out hb)
      have K2_15 := Lib.hid (below_chain K2_14.out hb)
      have Km_15 := Lib.hid (below_chain Km_14.out hb)
      have KM_15 := Lib.hid (below_chain KM_14.out hb)
      have Ky_15 := Lib.hid (below_chain Ky_14.out hb)
      have Kq_15 := Lib.hid (below_chain Kq_14.out hb)
      have KQ_15 := Lib.hid (below_chain KQ_14.out hb)
      clear hb
      go_wp2_with fail
      go_ret
      exact ⟨rfl, K0_15.out⟩
    · generalize (getB l1).1 = x1 at *
      have HX1 := Lib.hid hx1
      have HM1 := Lib.hid hm1
      have HP1 := Lib.hid hp1
      clear hx1 hm1 hp1
      go_wp2_with fail
      refine (GetB_b rfl (HV1.out.below K0_11.out) (by have := HL1.out; omega) (HT.out.below K0_11.out) HX1.out).mono ?_
      rintro e wq ⟨Aq, cq, Bq, dq, rfl, hvq, hb⟩
      have K0_12 := Lib.hid (below_chain K0_11.out hb)
      have K1_12 := Lib.hid (below_chain K1_11.out hb)
      have K2_12 := Lib.hid (below_chain K2_11.out hb)
      have Km_12 := Lib.hid (below_chain Km_11.out hb)
      have KM_12 := Lib.hid (below_chain KM_11.out hb)
      have Ky_12 := Lib.hid (below_chain Ky_11.out hb)
      have HVQ := Lib.hid hvq
      clear hvq hb
      go_wp2_with (first
        | ((with_reducible show wpList _ _ _ _ _ wq); refine wpList_allocS rfl 31 rfl zc backZero ?_; intro gQ waQ hk4 hb4 hg4; go_frame; have CA := Lib.hid hk4; have BA := Lib.hid hb4; have GA := Lib.hid hg4; clear hk4 hb4 hg4)
        | ((with_reducible show wpList _ _ _ _ _ waQ); refine wpList_storeS rfl 31 _ _ rfl gQ rfl (bacCells x1 (.slice Aq x1.data.length cq) (.slice Bq x1.names.length dq)) zc rfl CA.out rfl (bac_one rfl rfl) infoBack ?_; intro wbQ hk5 ht5; go_frame; have CQ := Lib.hid hk5; have BB := Lib.hid (BA.out.trans (ht5.below BA.out.size fun k e => by have := GA.out; omega)); clear hk5 ht5 CA BA GA)
        | ((with_reducible show wpList _ _ _ _ _ wbQ); refine wpList_loadS rfl 31 _ rfl gQ rfl (bacCells x1 (.slice Aq x1.data.length cq) (.slice Bq x1.names.length dq)) CQ.out _ Tryd.underlying31 rfl infoBack ?_; go_frame)
        | fail)
      have K0_13 := Lib.hid (below_chain K0_12.out BB.out)
      have K1_13 := Lib.hid (below_chain K1_12.out BB.out)
      have K2_13 := Lib.hid (below_chain K2_12.out BB.out)
      have Km_13 := Lib.hid (below_chain Km_12.out BB.out)
      have KM_13 := Lib.hid (below_chain KM_12.out BB.out)
      have Ky_13 := Lib.hid (below_chain Ky_12.out BB.out)
      have Kq_13 := Lib.hid (BB.out)
      clear BB
      have hvt : BacV wbQ (· < wbQ.heap.size) x1 (.slice Aq x1.data.length cq) (.slice Bq x1.names.length dq) := by
        have h1 := HVQ.out.below Kq_13.out
        exact h1.mono fun k hk _ => hk
      have HVT := Lib.hid hvt
      clear hvt
      refine (PutB_yes HVT.out (fun k hk => hk) (HT.out.below K0_13.out) HM1.out).mono ?_
      rw [HP1.out]
      rintro e wp ⟨Ap, cpp, rfl, hvp, hb⟩
      have K0_14 := Lib.hid (below_chain K0_13.out hb)
      have K1_14 := Lib.hid (below_chain K1_13.out hb)
      have K2_14 := Lib.hid (below_chain K2_13.out hb)
      have Km_14 := Lib.hid (below_chain Km_13.out hb)
      have KM_14 := Lib.hid (below_chain KM_13.out hb)
      have Ky_14 := Lib.hid (below_chain Ky_13.out hb)
      have Kq_14 := Lib.hid (below_chain Kq_13.out hb)
      have KQ_14 := Lib.hid (hb)
      have HVP := Lib.hid hvp
      clear hvp hb
      have hs := Same_any Ap A1 l1 l1 cpp c1 wp HVP.out.rdB (HV1.out.below K0_14.out).rdB
      rw [beq_self_eq_true] at hs
      go_wp2_with fail
      refine hs.mono ?_
      rintro e wr ⟨rfl, rfl⟩
      clear hs
      go_wp2_with (first
        | ((with_reducible show wpList _ _ _ _ _ wp); refine wpList_loadG (by rfl) 31 (.tmp 18) rfl gQ rfl (bacCells x1 (.slice Aq x1.data.length cq) (.slice Bq x1.names.length dq)) (CQ.out.below KQ_14.out CQ.out.lt) _ Tryd.underlying31 rfl infoBack ?_; go_frame)
        | fail)
      have hmv := May_v (HVQ.out.below Kq_14.out) (HT.out.below K0_14.out)
      rw [HM1.out] at hmv
      refine hmv.mono ?_
      rintro e ws ⟨rfl, hb⟩
      have K0_15 := Lib.hid (below_chain K0_14.out hb)
      have K1_15 := Lib.hid (below_chain K1_14.out hb)
      have K2_15 := Lib.hid (below_chain K2_14.out hb)
      have Km_15 := Lib.hid (below_chain Km_14.out hb)
      have KM_15 := Lib.hid (below_chain KM_14.out hb)
      have Ky_15 := Lib.hid (below_chain Ky_14.out hb)
      have Kq_15 := Lib.hid (below_chain Kq_14.out hb)
      have KQ_15 := Lib.hid (below_chain KQ_14.out hb)
      have Kp_15 := Lib.hid (hb)
      clear hb hmv
      go_wp2_with fail
      refine (lives11_v _ (HT.out.below K0_15.out)).mono ?_
      rintro e wz ⟨rfl, hb⟩
      have K0_16 := Lib.hid (below_chain K0_15.out hb)
      have K1_16 := Lib.hid (below_chain K1_15.out hb)
      have K2_16 := Lib.hid (below_chain K2_15.out hb)
      have Km_16 := Lib.hid (below_chain Km_15.out hb)
      have KM_16 := Lib.hid (below_chain KM_15.out hb)
      have Ky_16 := Lib.hid (below_chain Ky_15.out hb)
      have Kq_16 := Lib.hid (below_chain Kq_15.out hb)
      have KQ_16 := Lib.hid (below_chain KQ_15.out hb)
      have Kp_16 := Lib.hid (below_chain Kp_15.out hb)
      clear hb
      go_wp2_with fail
      go_ret
      exact ⟨rfl, K0_16.out⟩
theorem back11_walk (c : BackX) (va ua : Value) (l1 : List UInt8) (A1 : Option Addr) (c1 : Nat) (l2 : List UInt8) (A2 : Option Addr) (c2 : Nat) (cut : Int) (w : World) (hT : Tabs w) (hc : BacV w (· < w.heap.size) c va ua) (hcl : c.data.length ≤ 140737488351232)
    (hl1 : l1.length ≤ 140737488351232) (rd1 : Rd w A1 l1) (hlc1 : l1.length ≤ c1) (hcm1 : c1 ≤ maxLen) (nil1 : A1 = none → l1 = [] ∧ c1 = 0)
    (hl2 : l2.length ≤ 140737488351232) (rd2 : Rd w A2 l2) (hlc2 : l2.length ≤ c2) (hcm2 : c2 ≤ maxLen) (nil2 : A2 = none → l2 = [] ∧ c2 = 0) (lo3 : -9223372036854775808 ≤ cut) (hi3 : cut ≤ 9223372036854775807) :
    Calls Tryd.prog 4 #[.agg (bacCells c va ua).toArray, .slice A1 l1.length c1, .slice A2 l2.length c2, .int .i64 cut] w fun e w' => e = .returned (.bool true) ∧ Below w.heap.size w w' := by
  by_cases h1 : 100 < c.names.length
  · exact back11_many c va ua l1 A1 c1 l2 A2 c2 cut w hT hc hcl hl1 rd1 hlc1 hcm1 nil1 hl2 rd2 hlc2 hcm2 nil2 lo3 hi3 h1
  cases hm : mayB c
  · exact back11_no c va ua l1 A1 c1 l2 A2 c2 cut w hT hc hcl hl1 rd1 hlc1 hcm1 nil1 hl2 rd2 hlc2 hcm2 nil2 lo3 hi3 (by omega) hm
  by_cases hcut : 0 ≤ cut ∧ cut < ((putB c).length : Int)
  · exact back11_in c va ua l1 A1 c1 l2 A2 c2 cut w hT hc hcl hl1 rd1 hlc1 hcm1 nil1 hl2 rd2 hlc2 hcm2 nil2 lo3 hi3 (by omega) hm hcut
  · exact back11_out c va ua l1 A1 c1 l2 A2 c2 cut w hT hc hcl hl1 rd1 hlc1 hcm1 nil1 hl2 rd2 hlc2 hcm2 nil2 lo3 hi3 (by omega) hm hcut

end Go.Proofs.YtboalmmpcfiicaaDoor
