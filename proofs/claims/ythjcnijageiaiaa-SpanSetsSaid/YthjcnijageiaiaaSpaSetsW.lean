/- SpanSets: the walk. -/
import Derived.Test.YthjcnijageiaiaaSpaM
namespace Go.Proofs.Ythjcnijageiaiaa
open Go.RowKit Go.Shelf
set_option linter.unusedVariables false
set_option maxRecDepth 100000
set_option linter.unusedSimpArgs false

set_option maxHeartbeats 16000000 in
theorem sets12_walk (K : K12) (l : List Sp) (s : Sp) (x : Nat) (A : Option Addr) (c : Nat) (w : World) (hl : LsF w A c l) (hs : s.1 < 4294967296 ∧ s.2 < 4294967296) (hx : x < 4294967296) :
    Calls Try.prog 4 #[.slice A l.length c, .agg (spC s).toArray, .int .u32 (x : Int)] w fun e w' => e = .returned (.bool true) ∧ Below w.heap.size w w' := by
  have HK := Lib.hid K
  have HL := Lib.hid hl
  have HS := Lib.hid hs
  have HX := Lib.hid hx
  have hlm : (l.length : Int) ≤ 9223372036854775807 := by have h1 := hl.2.1; have h2 := hl.2.2.1; simp only [maxLen] at h2; omega
  have hmix : Try.prog.follows .mixedOrders = true := by kernel_rfl
  clear K hl hs hx
  obtain ⟨s1, s2⟩ := s
  dsimp only at *
  by_cases h60 : 60 < l.length
  · have e0 : (60 : Int) < l.length := by omega
    go_enter Try.func4, Try.ntmps4
    go_wp2_with (first
      | ((with_reducible show wpList _ _ _ _ _ w); refine wpList_boxS rfl 25 _ rfl (spC (s1, s2)) rfl ?_; intro g1 w1 hk1 hb1 hg1; go_frame; have C1 := Lib.hid hk1; have B1 := Lib.hid hb1; have q0 : w1.cell? ⟨g1, 0, none⟩ = some (.int .u32 (s1 : Int)) := C1.out.cell 0 rfl; have q1 : w1.cell? ⟨g1, 1, none⟩ = some (.int .u32 (s2 : Int)) := C1.out.cell 1 rfl; clear hk1 hb1 hg1)
      | fail)
    refine (lives12_v HK.out w1).mono ?_
    rintro e wz ⟨rfl, hb⟩
    have BZ := Lib.hid (below_chain B1.out hb)
    clear hb
    go_wp2_with fail
    go_ret
    exact ⟨rfl, BZ.out⟩
  have e0 : (l.length : Int) ≤ 60 := by omega
  have HLN := Lib.hid (show l.length ≤ 60 by omega)
  clear h60
  go_enter Try.func4, Try.ntmps4
  go_wp2_with (first
    | ((with_reducible show wpList _ _ _ _ _ w); refine wpList_boxS rfl 25 _ rfl (spC (s1, s2)) rfl ?_; intro g1 w1 hk1 hb1 hg1; go_frame; have C1 := Lib.hid hk1; have B1 := Lib.hid hb1; have q0 : w1.cell? ⟨g1, 0, none⟩ = some (.int .u32 (s1 : Int)) := C1.out.cell 0 rfl; have q1 : w1.cell? ⟨g1, 1, none⟩ = some (.int .u32 (s2 : Int)) := C1.out.cell 1 rfl; clear hk1 hb1 hg1)
    | fail)
  refine (HK.out.may l A c w1 (by have := HLN.out; omega) (HL.out.below B1.out)).mono ?_
  rintro e w2 ⟨rfl, hb⟩
  have B2 := Lib.hid (below_chain B1.out hb)
  have C2 := Lib.hid (C1.out.below hb C1.out.lt)
  clear hb q0 q1
  have q0 : w2.cell? ⟨g1, 0, none⟩ = some (.int .u32 (s1 : Int)) := C2.out.cell 0 rfl
  have q1 : w2.cell? ⟨g1, 1, none⟩ = some (.int .u32 (s2 : Int)) := C2.out.cell 1 rfl
  cases hm : mayS l
  · go_wp2_with fail
    refine (lives12_v HK.out w2).mono ?_
    rintro e wz ⟨rfl, hb⟩
    have BZ := Lib.hid (below_chain B2.out hb)
    clear hb
    go_wp2_with fail
    go_ret
    exact ⟨rfl, BZ.out⟩
  have HM := Lib.hid hm
  clear hm
  by_cases h12 : s2 < s1
  · go_wp2_with fail
    refine (lives12_v HK.out w2).mono ?_
    rintro e wz ⟨rfl, hb⟩
    have BZ := Lib.hid (below_chain B2.out hb)
    clear hb
    go_wp2_with fail
    go_ret
    exact ⟨rfl, BZ.out⟩
  have hle : s1 ≤ s2 := by omega
  have HLE := Lib.hid hle
  go_wp2_with (first
    | ((with_reducible show wpList _ _ _ _ _ w2); refine wpList_loadS rfl 25 _ rfl g1 rfl (spC (s1, s2)) (C2.out.below (Below.refl _ _) C2.out.lt) _ Try.underlying25 rfl infoSpan ?_; go_frame)
    | fail)
  refine (HK.out.add l (s1, s2) A c w2 (by have := HLN.out; omega) HS.out (HL.out.below B2.out)).mono ?_
  intro e w3 hd
  obtain ⟨ra, Aa, ca, rfl, ha, hla, hra, hxa⟩ := hd.yes HM.out HLE.out
  have HA := Lib.hid ha
  have HLA := Lib.hid hla
  have HRA := Lib.hid hra
  have hb := hxa.2
  have K0_1 := Lib.hid (hb)
  have hni3 : (ra.length : Int) ≤ 122 := by have := HLN.out; omega
  clear hd ha hla hra hxa hb
  go_wp2_with (first
    | ((with_reducible show wpList _ _ _ _ _ w3); refine wpList_loadS rfl 25 _ rfl g1 rfl (spC (s1, s2)) (C2.out.below K0_1.out C2.out.lt) _ Try.underlying25 rfl infoSpan ?_; go_frame)
    | fail)
  refine (HK.out.cut l (s1, s2) A c w3 (by have := HLN.out; omega) HS.out ((HL.out.below B2.out).below K0_1.out)).mono ?_
  intro e w4 hd
  obtain ⟨rc, Ac, cc, rfl, hc, hlc, hrc, hxc⟩ := hd.yes HM.out HLE.out
  have HC := Lib.hid hc
  have HLC := Lib.hid hlc
  have HRC := Lib.hid hrc
  have hb := hxc.2
  have K0_2 := Lib.hid (below_chain K0_1.out hb)
  have Ka_2 := Lib.hid (hb)
  have hni4 : (rc.length : Int) ≤ 122 := by have := HLN.out; omega
  clear hd hc hlc hrc hxc hb
  go_wp2_with fail
  refine (HK.out.may ra Aa ca w4 (by have := HLA.out; have := HLN.out; omega) (HRA.out.below Ka_2.out)).mono ?_
  rintro e w5 ⟨rfl, hb⟩
  have K0_3 := Lib.hid (below_chain K0_2.out hb)
  have Ka_3 := Lib.hid (below_chain Ka_2.out hb)
  have Kc_3 := Lib.hid (hb)
  clear hb
  rw [HA.out.1]
  go_wp2_with fail
  refine (HK.out.may rc Ac cc w5 (by have := HLC.out; have := HLN.out; omega) (HRC.out.below Kc_3.out)).mono ?_
  rintro e w6 ⟨rfl, hb⟩
  have K0_4 := Lib.hid (below_chain K0_3.out hb)
  have Ka_4 := Lib.hid (below_chain Ka_3.out hb)
  have Kc_4 := Lib.hid (below_chain Kc_3.out hb)
  clear hb
  rw [HC.out.1]
  go_wp2_with (first
    | ((with_reducible show wpList _ _ _ _ _ w6); refine wpList_loadS rfl 25 _ rfl g1 rfl (spC (s1, s2)) (C2.out.below K0_4.out C2.out.lt) _ Try.underlying25 rfl infoSpan ?_; go_frame)
    | fail)
  refine (HK.out.cut ra (s1, s2) Aa ca w6 (by have := HLA.out; have := HLN.out; omega) HS.out (HRA.out.below Ka_4.out)).mono ?_
  intro e w7 hd
  obtain ⟨Ad, cd, rfl, hrd, hxd⟩ := hd.is CutOf.one HA.out.1 HLE.out (sets_cut HA.out HC.out)
  have HRD := Lib.hid hrd
  have hb := hxd.2
  have K0_5 := Lib.hid (below_chain K0_4.out hb)
  have Ka_5 := Lib.hid (below_chain Ka_4.out hb)
  have Kc_5 := Lib.hid (below_chain Kc_4.out hb)
  clear hd hrd hxd hb
  have q0 : w7.cell? ⟨g1, 0, none⟩ = some (.int .u32 (s1 : Int)) := (C2.out.below K0_5.out C2.out.lt).cell 0 rfl
  have q1 : w7.cell? ⟨g1, 1, none⟩ = some (.int .u32 (s2 : Int)) := (C2.out.below K0_5.out C2.out.lt).cell 1 rfl
  have HT := Lib.hid (fun h1 h2 => in_true (s := (s1, s2)) (x := x) h1 h2)
  have HFa := Lib.hid (fun h => in_false (s := (s1, s2)) (x := x) h)
  have HHA := Lib.hid (HA.out.has x)
  have HHC := Lib.hid (HC.out.has x)
  have HHL := Lib.hid (hasP_may HM.out x)
  by_cases h1 : s1 ≤ x
  · by_cases h2 : x < s2
    · have HOW := Lib.hid (HT.out h1 h2)
      have e1 : (s1 : Int) ≤ x := by omega
      have e2 : (x : Int) < s2 := by omega
      clear HT HFa
      rw [HOW.out] at HHA HHC
      simp only [Bool.or_true, Bool.not_true, Bool.and_false] at HHA HHC
      go_wp2_with fail
      refine (HK.out.has ra x Aa ca w7 (by have := HLA.out; have := HLC.out; have := HLN.out; omega) HX.out (HRA.out.below Ka_5.out)).mono ?_
      rintro e w8 ⟨rfl, hb⟩
      have K0_6 := Lib.hid (below_chain K0_5.out hb)
      have Ka_6 := Lib.hid (below_chain Ka_5.out hb)
      have Kc_6 := Lib.hid (below_chain Kc_5.out hb)
      have Kd_6 := Lib.hid (hb)
      clear hb
      rw [HHA.out]
      go_wp2_with fail
      refine (HK.out.has rc x Ac cc w8 (by have := HLA.out; have := HLC.out; have := HLN.out; omega) HX.out (HRC.out.below Kc_6.out)).mono ?_
      rintro e w9 ⟨rfl, hb⟩
      have K0_7 := Lib.hid (below_chain K0_6.out hb)
      have Ka_7 := Lib.hid (below_chain Ka_6.out hb)
      have Kc_7 := Lib.hid (below_chain Kc_6.out hb)
      have Kd_7 := Lib.hid (below_chain Kd_6.out hb)
      clear hb
      rw [HHC.out]
      go_wp2_with fail
      have k0 : w9.cell? ⟨g1, 0, none⟩ = some (.int .u32 (s1 : Int)) := (C2.out.below K0_7.out C2.out.lt).cell 0 rfl
      have k1 : w9.cell? ⟨g1, 1, none⟩ = some (.int .u32 (s2 : Int)) := (C2.out.below K0_7.out C2.out.lt).cell 1 rfl
      have HSL := Lib.hid (sets_len HLE.out HA.out HC.out)
      have HLC4 := Lib.hid (show lenP rc ≤ 4294967296 by unfold lenP; rw [HC.out.1]; exact lenS_32 HC.out.1 fun t ht => (HRC.out.1.lt32 t ht).2)
      refine wp_region_V [] (Below w9.heap.size w9) hmix ((Below.refl _ _).drew) ?_
      change wpAnyV _ _ _ _ _ _ _ _ _
      refine wpAnyV_take (i := 0) (v := .int .i64 0) 8 (kept_below w9) rfl (by kernel_rfl) (by kernel_rfl) (fun _ _ _ h => h) (fun _ h => h) (DoesV.reads (by rfl) fun w9 hS => by go_simp) ?_
      try simp only [List.getElem_toArray, List.getElem_cons_succ, List.getElem_cons_zero, Act.put, List.setIfInBounds_toArray, List.set_cons_succ, List.set_cons_zero]
      refine wpAnyV_take (i := 1) (v := .bool true) 8 (kept_below w9) rfl (by kernel_rfl) (by kernel_rfl) (fun _ _ _ h => h) (fun _ h => h) (DoesV.reads (by rfl) fun w9 hS => by go_simp) ?_
      try simp only [List.getElem_toArray, List.getElem_cons_succ, List.getElem_cons_zero, Act.put, List.setIfInBounds_toArray, List.set_cons_succ, List.set_cons_zero]
      refine wpAnyV_take (i := 2) (v := .bool true) 8 (kept_below w9) rfl (by kernel_rfl) (by kernel_rfl) (fun _ _ _ h => h) (fun _ h => h) (DoesV.reads (by rfl) fun w9 hS => by go_simp) ?_
      try simp only [List.getElem_toArray, List.getElem_cons_succ, List.getElem_cons_zero, Act.put, List.setIfInBounds_toArray, List.set_cons_succ, List.set_cons_zero]
      refine wpAnyV_take (i := 3) (v := .slice Ac rc.length cc) 8 (kept_below w9) rfl (by kernel_rfl) (by kernel_rfl) (fun _ _ _ h => h) (fun _ h => h) (DoesV.reads (by rfl) fun w9 hS => by go_simp) ?_
      try simp only [List.getElem_toArray, List.getElem_cons_succ, List.getElem_cons_zero, Act.put, List.setIfInBounds_toArray, List.set_cons_succ, List.set_cons_zero]
      refine wpAnyV_take (i := 4) (v := .slice Ad rc.length cd) 8 (kept_below w9) rfl (by kernel_rfl) (by kernel_rfl) (fun _ _ _ h => h) (fun _ h => h) (DoesV.reads (by rfl) fun w9 hS => by go_simp) ?_
      try simp only [List.getElem_toArray, List.getElem_cons_succ, List.getElem_cons_zero, Act.put, List.setIfInBounds_toArray, List.set_cons_succ, List.set_cons_zero]
      refine wpAnyV_take (i := 5) (v := .bool true) 8 (kept_below w9) rfl (by kernel_rfl) (by kernel_rfl) (fun _ _ _ h => h) (fun _ h => h) (DoesV.calls 12 #[.slice Ac rc.length cc, .slice Ad rc.length cd] (by rfl) (fun w9 hS => by go_simp) (fun w9 hS => (Spans_any rc rc Ac Ad cc cd _ _ w9 (by have := HLC.out; have := HLN.out; omega) (by have := HLC.out; have := HLN.out; omega) ((HRC.out.below Kc_7.out).below hS).1 ((HRD.out.below Kd_7.out).below hS).1).mono fun e u h => ⟨by rw [h.1, decide_eq_true (rfl : rc = rc)], h.2⟩)) ?_
      try simp only [List.getElem_toArray, List.getElem_cons_succ, List.getElem_cons_zero, Act.put, List.setIfInBounds_toArray, List.set_cons_succ, List.set_cons_zero]
      refine wpAnyV_take (i := 6) (v := .bool true) 8 (kept_below w9) rfl (by kernel_rfl) (by kernel_rfl) (fun _ _ _ h => h) (fun _ h => h) (DoesV.reads (by rfl) fun w9 hS => by go_simp) ?_
      try simp only [List.getElem_toArray, List.getElem_cons_succ, List.getElem_cons_zero, Act.put, List.setIfInBounds_toArray, List.set_cons_succ, List.set_cons_zero]
      refine wpAnyV_take (i := 7) (v := .bool true) 8 (kept_below w9) rfl (by kernel_rfl) (by kernel_rfl) (fun _ _ _ h => h) (fun _ h => h) (DoesV.reads (by rfl) fun w9 hS => by go_simp) ?_
      try simp only [List.getElem_toArray, List.getElem_cons_succ, List.getElem_cons_zero, Act.put, List.setIfInBounds_toArray, List.set_cons_succ, List.set_cons_zero]
      refine wpAnyV_take (i := 8) (v := .slice Aa ra.length ca) 8 (kept_below w9) rfl (by kernel_rfl) (by kernel_rfl) (fun _ _ _ h => h) (fun _ h => h) (DoesV.reads (by rfl) fun w9 hS => by go_simp) ?_
      try simp only [List.getElem_toArray, List.getElem_cons_succ, List.getElem_cons_zero, Act.put, List.setIfInBounds_toArray, List.set_cons_succ, List.set_cons_zero]
      refine wpAnyV_take (i := 9) (v := .agg (spC (s1, s2)).toArray) 8 (kept_below w9) rfl (by kernel_rfl) (by kernel_rfl) (fun _ _ _ h => h) (fun _ h => h) (DoesV.loadSp (by rfl) _ rfl g1 rfl (s1, s2) (fun w9 hS => (C2.out.below K0_7.out C2.out.lt).below hS (C2.out.below K0_7.out C2.out.lt).lt)) ?_
      try simp only [List.getElem_toArray, List.getElem_cons_succ, List.getElem_cons_zero, Act.put, List.setIfInBounds_toArray, List.set_cons_succ, List.set_cons_zero]
      refine wpAnyV_take (i := 10) (v := .bool true) 8 (kept_below w9) rfl (by kernel_rfl) (by kernel_rfl) (fun _ _ _ h => h) (fun _ h => h) (DoesV.calls 17 #[.slice Aa ra.length ca, .agg (spC (s1, s2)).toArray] (by rfl) (fun w9 hS => by go_simp) (fun w9 hS => (HK.out.holds ra (s1, s2) Aa ca w9 (by have := HLA.out; have := HLN.out; omega) HS.out ((HRA.out.below Ka_7.out).below hS)).mono fun e u h => ⟨by rw [h.1, HA.out.holds HLE.out], h.2⟩)) ?_
      try simp only [List.getElem_toArray, List.getElem_cons_succ, List.getElem_cons_zero, Act.put, List.setIfInBounds_toArray, List.set_cons_succ, List.set_cons_zero]
      refine wpAnyV_take (i := 11) (v := .bool true) 8 (kept_below w9) rfl (by kernel_rfl) (by kernel_rfl) (fun _ _ _ h => h) (fun _ h => h) (DoesV.reads (by rfl) fun w9 hS => by go_simp) ?_
      try simp only [List.getElem_toArray, List.getElem_cons_succ, List.getElem_cons_zero, Act.put, List.setIfInBounds_toArray, List.set_cons_succ, List.set_cons_zero]
      refine wpAnyV_take (i := 12) (v := .bool true) 8 (kept_below w9) rfl (by kernel_rfl) (by kernel_rfl) (fun _ _ _ h => h) (fun _ h => h) (DoesV.reads (by rfl) fun w9 hS => by go_simp) ?_
      try simp only [List.getElem_toArray, List.getElem_cons_succ, List.getElem_cons_zero, Act.put, List.setIfInBounds_toArray, List.set_cons_succ, List.set_cons_zero]
      refine wpAnyV_take (i := 13) (v := .slice Aa ra.length ca) 8 (kept_below w9) rfl (by kernel_rfl) (by kernel_rfl) (fun _ _ _ h => h) (fun _ h => h) (DoesV.reads (by rfl) fun w9 hS => by go_simp) ?_
      try simp only [List.getElem_toArray, List.getElem_cons_succ, List.getElem_cons_zero, Act.put, List.setIfInBounds_toArray, List.set_cons_succ, List.set_cons_zero]
      refine wpAnyV_take (i := 14) (v := .int .u64 (lenP ra : Int)) 8 (kept_below w9) rfl (by kernel_rfl) (by kernel_rfl) (fun _ _ _ h => h) (fun _ h => h) (DoesV.calls 19 #[.slice Aa ra.length ca] (by rfl) (fun w9 hS => by go_simp) (fun w9 hS => HK.out.len ra Aa ca w9 (by have := HLA.out; have := HLN.out; omega) ((HRA.out.below Ka_7.out).below hS))) ?_
      try simp only [List.getElem_toArray, List.getElem_cons_succ, List.getElem_cons_zero, Act.put, List.setIfInBounds_toArray, List.set_cons_succ, List.set_cons_zero]
      refine wpAnyV_take (i := 15) (v := .slice Ac rc.length cc) 8 (kept_below w9) rfl (by kernel_rfl) (by kernel_rfl) (fun _ _ _ h => h) (fun _ h => h) (DoesV.reads (by rfl) fun w9 hS => by go_simp) ?_
      try simp only [List.getElem_toArray, List.getElem_cons_succ, List.getElem_cons_zero, Act.put, List.setIfInBounds_toArray, List.set_cons_succ, List.set_cons_zero]
      refine wpAnyV_take (i := 16) (v := .int .u64 (lenP rc : Int)) 8 (kept_below w9) rfl (by kernel_rfl) (by kernel_rfl) (fun _ _ _ h => h) (fun _ h => h) (DoesV.calls 19 #[.slice Ac rc.length cc] (by rfl) (fun w9 hS => by go_simp) (fun w9 hS => HK.out.len rc Ac cc w9 (by have := HLC.out; have := HLN.out; omega) ((HRC.out.below Kc_7.out).below hS))) ?_
      try simp only [List.getElem_toArray, List.getElem_cons_succ, List.getElem_cons_zero, Act.put, List.setIfInBounds_toArray, List.set_cons_succ, List.set_cons_zero]
      refine wpAnyV_take (i := 17) (v := .pointer (some ⟨g1, 1, none⟩)) 8 (kept_below w9) rfl (by kernel_rfl) (by kernel_rfl) (fun _ _ _ h => h) (fun _ h => h) (DoesV.reads (by rfl) fun w9 hS => by go_simp) ?_
      try simp only [List.getElem_toArray, List.getElem_cons_succ, List.getElem_cons_zero, Act.put, List.setIfInBounds_toArray, List.set_cons_succ, List.set_cons_zero]
      refine wpAnyV_take (i := 18) (v := .int .u32 (s2 : Int)) 8 (kept_below w9) rfl (by kernel_rfl) (by kernel_rfl) (fun _ _ _ h => h) (fun _ h => h) (DoesV.reads (by rfl) fun w9 hS => by have q0 := cell_bS hS k1; go_simp) ?_
      try simp only [List.getElem_toArray, List.getElem_cons_succ, List.getElem_cons_zero, Act.put, List.setIfInBounds_toArray, List.set_cons_succ, List.set_cons_zero]
      refine wpAnyV_take (i := 19) (v := .pointer (some ⟨g1, 0, none⟩)) 8 (kept_below w9) rfl (by kernel_rfl) (by kernel_rfl) (fun _ _ _ h => h) (fun _ h => h) (DoesV.reads (by rfl) fun w9 hS => by go_simp) ?_
      try simp only [List.getElem_toArray, List.getElem_cons_succ, List.getElem_cons_zero, Act.put, List.setIfInBounds_toArray, List.set_cons_succ, List.set_cons_zero]
      refine wpAnyV_take (i := 20) (v := .int .u32 (s1 : Int)) 8 (kept_below w9) rfl (by kernel_rfl) (by kernel_rfl) (fun _ _ _ h => h) (fun _ h => h) (DoesV.reads (by rfl) fun w9 hS => by have q0 := cell_bS hS k0; go_simp) ?_
      try simp only [List.getElem_toArray, List.getElem_cons_succ, List.getElem_cons_zero, Act.put, List.setIfInBounds_toArray, List.set_cons_succ, List.set_cons_zero]
      refine wpAnyV_take (i := 21) (v := .int .u32 ((s2 - s1 : Nat) : Int)) 8 (kept_below w9) rfl (by kernel_rfl) (by kernel_rfl) (fun _ _ _ h => h) (fun _ h => h) (DoesV.reads (by rfl) fun w9 hS => by have z1 : s1 ≤ s2 := HLE.out; have z2 : s2 < 4294967296 := HS.out.2; rw [Int.ofNat_sub z1]; go_simp; try simp (disch := omega) only [IntWalk.i64_in, IntWalk.u32_in, IntWalk.u64_in]) ?_
      try simp only [List.getElem_toArray, List.getElem_cons_succ, List.getElem_cons_zero, Act.put, List.setIfInBounds_toArray, List.set_cons_succ, List.set_cons_zero]
      refine wpAnyV_take (i := 22) (v := .int .u64 ((s2 - s1 : Nat) : Int)) 8 (kept_below w9) rfl (by kernel_rfl) (by kernel_rfl) (fun _ _ _ h => h) (fun _ h => h) (DoesV.reads (by rfl) fun w9 hS => by have z2 : s2 - s1 < 4294967296 := (by have z2 : s2 < 4294967296 := HS.out.2; omega); go_simp; try simp (disch := omega) only [IntWalk.i64_in, IntWalk.u32_in, IntWalk.u64_in]) ?_
      try simp only [List.getElem_toArray, List.getElem_cons_succ, List.getElem_cons_zero, Act.put, List.setIfInBounds_toArray, List.set_cons_succ, List.set_cons_zero]
      refine wpAnyV_take (i := 23) (v := .int .u64 (lenP ra : Int)) 8 (kept_below w9) rfl (by kernel_rfl) (by kernel_rfl) (fun _ _ _ h => h) (fun _ h => h) (DoesV.reads (by rfl) fun w9 hS => by rw [HSL.out]; have z2 : s2 - s1 < 4294967296 := (by have z2 : s2 < 4294967296 := HS.out.2; omega); have z4 := HLC4.out; go_simp; try simp (disch := omega) only [IntWalk.i64_in, IntWalk.u32_in, IntWalk.u64_in]) ?_
      try simp only [List.getElem_toArray, List.getElem_cons_succ, List.getElem_cons_zero, Act.put, List.setIfInBounds_toArray, List.set_cons_succ, List.set_cons_zero]
      refine wpAnyV_take (i := 24) (v := .bool true) 8 (kept_below w9) rfl (by kernel_rfl) (by kernel_rfl) (fun _ _ _ h => h) (fun _ h => h) (DoesV.reads (by rfl) fun w9 hS => by go_simp) ?_
      try simp only [List.getElem_toArray, List.getElem_cons_succ, List.getElem_cons_zero, Act.put, List.setIfInBounds_toArray, List.set_cons_succ, List.set_cons_zero]
      refine wpAnyV_take (i := 25) (v := .bool true) 8 (kept_below w9) rfl (by kernel_rfl) (by kernel_rfl) (fun _ _ _ h => h) (fun _ h => h) (DoesV.reads (by rfl) fun w9 hS => by go_simp) ?_
      try simp only [List.getElem_toArray, List.getElem_cons_succ, List.getElem_cons_zero, Act.put, List.setIfInBounds_toArray, List.set_cons_succ, List.set_cons_zero]
      refine wpAnyV_take (i := 26) (v := .bool true) 8 (kept_below w9) rfl (by kernel_rfl) (by kernel_rfl) (fun _ _ _ h => h) (fun _ h => h) (DoesV.reads (by rfl) fun w9 hS => by go_simp) ?_
      try simp only [List.getElem_toArray, List.getElem_cons_succ, List.getElem_cons_zero, Act.put, List.setIfInBounds_toArray, List.set_cons_succ, List.set_cons_zero]
      refine wpAnyV_take (i := 27) (v := .bool true) 8 (kept_below w9) rfl (by kernel_rfl) (by kernel_rfl) (fun _ _ _ h => h) (fun _ h => h) (DoesV.calls 7 #[] (by rfl) (fun w9 hS => by go_simp) (fun w9 hS => lives12_v HK.out w9)) ?_
      try simp only [List.getElem_toArray, List.getElem_cons_succ, List.getElem_cons_zero, Act.put, List.setIfInBounds_toArray, List.set_cons_succ, List.set_cons_zero]
      refine wpAnyV_take (i := 28) (v := .bool true) 8 (kept_below w9) rfl (by kernel_rfl) (by kernel_rfl) (fun _ _ _ h => h) (fun _ h => h) (DoesV.reads (by rfl) fun w9 hS => by go_simp) ?_
      try simp only [List.getElem_toArray, List.getElem_cons_succ, List.getElem_cons_zero, Act.put, List.setIfInBounds_toArray, List.set_cons_succ, List.set_cons_zero]
      refine wpAnyV_take (i := 29) (v := .bool true) 8 (kept_below w9) rfl (by kernel_rfl) (by kernel_rfl) (fun _ _ _ h => h) (fun _ h => h) (DoesV.reads (by rfl) fun w9 hS => by go_simp) ?_
      try simp only [List.getElem_toArray, List.getElem_cons_succ, List.getElem_cons_zero, Act.put, List.setIfInBounds_toArray, List.set_cons_succ, List.set_cons_zero]
      refine wpAnyV_done (by kernel_rfl) (fun y hu => ?_) _
      have K0_8 := Lib.hid (below_chain K0_7.out hu)
      have Ka_8 := Lib.hid (below_chain Ka_7.out hu)
      have Kc_8 := Lib.hid (below_chain Kc_7.out hu)
      have Kd_8 := Lib.hid (below_chain Kd_7.out hu)
      clear hu k0 k1
      go_wp2_with fail
      go_ret
      exact ⟨rfl, below_chain B2.out K0_8.out⟩
    · have HOW := Lib.hid (HFa.out fun h => h2 h.2)
      have e1 : (s1 : Int) ≤ x := by omega
      have e2 : ¬ (x : Int) < s2 := by omega
      clear HT HFa
      rw [HOW.out] at HHA HHC
      simp only [Bool.or_false, Bool.not_false, Bool.and_true] at HHA HHC
      generalize memS l x = m at *
      cases m
      · skip
        go_wp2_with fail
        refine (HK.out.has ra x Aa ca w7 (by have := HLA.out; have := HLC.out; have := HLN.out; omega) HX.out (HRA.out.below Ka_5.out)).mono ?_
        rintro e w8 ⟨rfl, hb⟩
        have K0_6 := Lib.hid (below_chain K0_5.out hb)
        have Ka_6 := Lib.hid (below_chain Ka_5.out hb)
        have Kc_6 := Lib.hid (below_chain Kc_5.out hb)
        have Kd_6 := Lib.hid (hb)
        clear hb
        rw [HHA.out]
        go_wp2_with fail
        refine (HK.out.has l x A c w8 (by have := HLA.out; have := HLC.out; have := HLN.out; omega) HX.out ((HL.out.below B2.out).below K0_6.out)).mono ?_
        rintro e w9 ⟨rfl, hb⟩
        have K0_7 := Lib.hid (below_chain K0_6.out hb)
        have Ka_7 := Lib.hid (below_chain Ka_6.out hb)
        have Kc_7 := Lib.hid (below_chain Kc_6.out hb)
        have Kd_7 := Lib.hid (below_chain Kd_6.out hb)
        clear hb
        rw [HHL.out]
        go_wp2_with fail
        refine (HK.out.has rc x Ac cc w9 (by have := HLA.out; have := HLC.out; have := HLN.out; omega) HX.out (HRC.out.below Kc_7.out)).mono ?_
        rintro e w10 ⟨rfl, hb⟩
        have K0_8 := Lib.hid (below_chain K0_7.out hb)
        have Ka_8 := Lib.hid (below_chain Ka_7.out hb)
        have Kc_8 := Lib.hid (below_chain Kc_7.out hb)
        have Kd_8 := Lib.hid (below_chain Kd_7.out hb)
        clear hb
        rw [HHC.out]
        go_wp2_with fail
        refine (HK.out.has l x A c w10 (by have := HLA.out; have := HLC.out; have := HLN.out; omega) HX.out ((HL.out.below B2.out).below K0_8.out)).mono ?_
        rintro e w11 ⟨rfl, hb⟩
        have K0_9 := Lib.hid (below_chain K0_8.out hb)
        have Ka_9 := Lib.hid (below_chain Ka_8.out hb)
        have Kc_9 := Lib.hid (below_chain Kc_8.out hb)
        have Kd_9 := Lib.hid (below_chain Kd_8.out hb)
        clear hb
        rw [HHL.out]
        go_wp2_with fail
        have k0 : w11.cell? ⟨g1, 0, none⟩ = some (.int .u32 (s1 : Int)) := (C2.out.below K0_9.out C2.out.lt).cell 0 rfl
        have k1 : w11.cell? ⟨g1, 1, none⟩ = some (.int .u32 (s2 : Int)) := (C2.out.below K0_9.out C2.out.lt).cell 1 rfl
        have HSL := Lib.hid (sets_len HLE.out HA.out HC.out)
        have HLC4 := Lib.hid (show lenP rc ≤ 4294967296 by unfold lenP; rw [HC.out.1]; exact lenS_32 HC.out.1 fun t ht => (HRC.out.1.lt32 t ht).2)
        refine wp_region_V [] (Below w11.heap.size w11) hmix ((Below.refl _ _).drew) ?_
        change wpAnyV _ _ _ _ _ _ _ _ _
        refine wpAnyV_take (i := 0) (v := .int .i64 0) 8 (kept_below w11) rfl (by kernel_rfl) (by kernel_rfl) (fun _ _ _ h => h) (fun _ h => h) (DoesV.reads (by rfl) fun w9 hS => by go_simp) ?_
        try simp only [List.getElem_toArray, List.getElem_cons_succ, List.getElem_cons_zero, Act.put, List.setIfInBounds_toArray, List.set_cons_succ, List.set_cons_zero]
        refine wpAnyV_take (i := 1) (v := .bool true) 8 (kept_below w11) rfl (by kernel_rfl) (by kernel_rfl) (fun _ _ _ h => h) (fun _ h => h) (DoesV.reads (by rfl) fun w9 hS => by go_simp) ?_
        try simp only [List.getElem_toArray, List.getElem_cons_succ, List.getElem_cons_zero, Act.put, List.setIfInBounds_toArray, List.set_cons_succ, List.set_cons_zero]
        refine wpAnyV_take (i := 2) (v := .bool true) 8 (kept_below w11) rfl (by kernel_rfl) (by kernel_rfl) (fun _ _ _ h => h) (fun _ h => h) (DoesV.reads (by rfl) fun w9 hS => by go_simp) ?_
        try simp only [List.getElem_toArray, List.getElem_cons_succ, List.getElem_cons_zero, Act.put, List.setIfInBounds_toArray, List.set_cons_succ, List.set_cons_zero]
        refine wpAnyV_take (i := 3) (v := .slice Ac rc.length cc) 8 (kept_below w11) rfl (by kernel_rfl) (by kernel_rfl) (fun _ _ _ h => h) (fun _ h => h) (DoesV.reads (by rfl) fun w9 hS => by go_simp) ?_
        try simp only [List.getElem_toArray, List.getElem_cons_succ, List.getElem_cons_zero, Act.put, List.setIfInBounds_toArray, List.set_cons_succ, List.set_cons_zero]
        refine wpAnyV_take (i := 4) (v := .slice Ad rc.length cd) 8 (kept_below w11) rfl (by kernel_rfl) (by kernel_rfl) (fun _ _ _ h => h) (fun _ h => h) (DoesV.reads (by rfl) fun w9 hS => by go_simp) ?_
        try simp only [List.getElem_toArray, List.getElem_cons_succ, List.getElem_cons_zero, Act.put, List.setIfInBounds_toArray, List.set_cons_succ, List.set_cons_zero]
        refine wpAnyV_take (i := 5) (v := .bool true) 8 (kept_below w11) rfl (by kernel_rfl) (by kernel_rfl) (fun _ _ _ h => h) (fun _ h => h) (DoesV.calls 12 #[.slice Ac rc.length cc, .slice Ad rc.length cd] (by rfl) (fun w9 hS => by go_simp) (fun w9 hS => (Spans_any rc rc Ac Ad cc cd _ _ w9 (by have := HLC.out; have := HLN.out; omega) (by have := HLC.out; have := HLN.out; omega) ((HRC.out.below Kc_9.out).below hS).1 ((HRD.out.below Kd_9.out).below hS).1).mono fun e u h => ⟨by rw [h.1, decide_eq_true (rfl : rc = rc)], h.2⟩)) ?_
        try simp only [List.getElem_toArray, List.getElem_cons_succ, List.getElem_cons_zero, Act.put, List.setIfInBounds_toArray, List.set_cons_succ, List.set_cons_zero]
        refine wpAnyV_take (i := 6) (v := .bool true) 8 (kept_below w11) rfl (by kernel_rfl) (by kernel_rfl) (fun _ _ _ h => h) (fun _ h => h) (DoesV.reads (by rfl) fun w9 hS => by go_simp) ?_
        try simp only [List.getElem_toArray, List.getElem_cons_succ, List.getElem_cons_zero, Act.put, List.setIfInBounds_toArray, List.set_cons_succ, List.set_cons_zero]
        refine wpAnyV_take (i := 7) (v := .bool true) 8 (kept_below w11) rfl (by kernel_rfl) (by kernel_rfl) (fun _ _ _ h => h) (fun _ h => h) (DoesV.reads (by rfl) fun w9 hS => by go_simp) ?_
        try simp only [List.getElem_toArray, List.getElem_cons_succ, List.getElem_cons_zero, Act.put, List.setIfInBounds_toArray, List.set_cons_succ, List.set_cons_zero]
        refine wpAnyV_take (i := 8) (v := .slice Aa ra.length ca) 8 (kept_below w11) rfl (by kernel_rfl) (by kernel_rfl) (fun _ _ _ h => h) (fun _ h => h) (DoesV.reads (by rfl) fun w9 hS => by go_simp) ?_
        try simp only [List.getElem_toArray, List.getElem_cons_succ, List.getElem_cons_zero, Act.put, List.setIfInBounds_toArray, List.set_cons_succ, List.set_cons_zero]
        refine wpAnyV_take (i := 9) (v := .agg (spC (s1, s2)).toArray) 8 (kept_below w11) rfl (by kernel_rfl) (by kernel_rfl) (fun _ _ _ h => h) (fun _ h => h) (DoesV.loadSp (by rfl) _ rfl g1 rfl (s1, s2) (fun w9 hS => (C2.out.below K0_9.out C2.out.lt).below hS (C2.out.below K0_9.out C2.out.lt).lt)) ?_
        try simp only [List.getElem_toArray, List.getElem_cons_succ, List.getElem_cons_zero, Act.put, List.setIfInBounds_toArray, List.set_cons_succ, List.set_cons_zero]
        refine wpAnyV_take (i := 10) (v := .bool true) 8 (kept_below w11) rfl (by kernel_rfl) (by kernel_rfl) (fun _ _ _ h => h) (fun _ h => h) (DoesV.calls 17 #[.slice Aa ra.length ca, .agg (spC (s1, s2)).toArray] (by rfl) (fun w9 hS => by go_simp) (fun w9 hS => (HK.out.holds ra (s1, s2) Aa ca w9 (by have := HLA.out; have := HLN.out; omega) HS.out ((HRA.out.below Ka_9.out).below hS)).mono fun e u h => ⟨by rw [h.1, HA.out.holds HLE.out], h.2⟩)) ?_
        try simp only [List.getElem_toArray, List.getElem_cons_succ, List.getElem_cons_zero, Act.put, List.setIfInBounds_toArray, List.set_cons_succ, List.set_cons_zero]
        refine wpAnyV_take (i := 11) (v := .bool true) 8 (kept_below w11) rfl (by kernel_rfl) (by kernel_rfl) (fun _ _ _ h => h) (fun _ h => h) (DoesV.reads (by rfl) fun w9 hS => by go_simp) ?_
        try simp only [List.getElem_toArray, List.getElem_cons_succ, List.getElem_cons_zero, Act.put, List.setIfInBounds_toArray, List.set_cons_succ, List.set_cons_zero]
        refine wpAnyV_take (i := 12) (v := .bool true) 8 (kept_below w11) rfl (by kernel_rfl) (by kernel_rfl) (fun _ _ _ h => h) (fun _ h => h) (DoesV.reads (by rfl) fun w9 hS => by go_simp) ?_
        try simp only [List.getElem_toArray, List.getElem_cons_succ, List.getElem_cons_zero, Act.put, List.setIfInBounds_toArray, List.set_cons_succ, List.set_cons_zero]
        refine wpAnyV_take (i := 13) (v := .slice Aa ra.length ca) 8 (kept_below w11) rfl (by kernel_rfl) (by kernel_rfl) (fun _ _ _ h => h) (fun _ h => h) (DoesV.reads (by rfl) fun w9 hS => by go_simp) ?_
        try simp only [List.getElem_toArray, List.getElem_cons_succ, List.getElem_cons_zero, Act.put, List.setIfInBounds_toArray, List.set_cons_succ, List.set_cons_zero]
        refine wpAnyV_take (i := 14) (v := .int .u64 (lenP ra : Int)) 8 (kept_below w11) rfl (by kernel_rfl) (by kernel_rfl) (fun _ _ _ h => h) (fun _ h => h) (DoesV.calls 19 #[.slice Aa ra.length ca] (by rfl) (fun w9 hS => by go_simp) (fun w9 hS => HK.out.len ra Aa ca w9 (by have := HLA.out; have := HLN.out; omega) ((HRA.out.below Ka_9.out).below hS))) ?_
        try simp only [List.getElem_toArray, List.getElem_cons_succ, List.getElem_cons_zero, Act.put, List.setIfInBounds_toArray, List.set_cons_succ, List.set_cons_zero]
        refine wpAnyV_take (i := 15) (v := .slice Ac rc.length cc) 8 (kept_below w11) rfl (by kernel_rfl) (by kernel_rfl) (fun _ _ _ h => h) (fun _ h => h) (DoesV.reads (by rfl) fun w9 hS => by go_simp) ?_
        try simp only [List.getElem_toArray, List.getElem_cons_succ, List.getElem_cons_zero, Act.put, List.setIfInBounds_toArray, List.set_cons_succ, List.set_cons_zero]
        refine wpAnyV_take (i := 16) (v := .int .u64 (lenP rc : Int)) 8 (kept_below w11) rfl (by kernel_rfl) (by kernel_rfl) (fun _ _ _ h => h) (fun _ h => h) (DoesV.calls 19 #[.slice Ac rc.length cc] (by rfl) (fun w9 hS => by go_simp) (fun w9 hS => HK.out.len rc Ac cc w9 (by have := HLC.out; have := HLN.out; omega) ((HRC.out.below Kc_9.out).below hS))) ?_
        try simp only [List.getElem_toArray, List.getElem_cons_succ, List.getElem_cons_zero, Act.put, List.setIfInBounds_toArray, List.set_cons_succ, List.set_cons_zero]
        refine wpAnyV_take (i := 17) (v := .pointer (some ⟨g1, 1, none⟩)) 8 (kept_below w11) rfl (by kernel_rfl) (by kernel_rfl) (fun _ _ _ h => h) (fun _ h => h) (DoesV.reads (by rfl) fun w9 hS => by go_simp) ?_
        try simp only [List.getElem_toArray, List.getElem_cons_succ, List.getElem_cons_zero, Act.put, List.setIfInBounds_toArray, List.set_cons_succ, List.set_cons_zero]
        refine wpAnyV_take (i := 18) (v := .int .u32 (s2 : Int)) 8 (kept_below w11) rfl (by kernel_rfl) (by kernel_rfl) (fun _ _ _ h => h) (fun _ h => h) (DoesV.reads (by rfl) fun w9 hS => by have q0 := cell_bS hS k1; go_simp) ?_
        try simp only [List.getElem_toArray, List.getElem_cons_succ, List.getElem_cons_zero, Act.put, List.setIfInBounds_toArray, List.set_cons_succ, List.set_cons_zero]
        refine wpAnyV_take (i := 19) (v := .pointer (some ⟨g1, 0, none⟩)) 8 (kept_below w11) rfl (by kernel_rfl) (by kernel_rfl) (fun _ _ _ h => h) (fun _ h => h) (DoesV.reads (by rfl) fun w9 hS => by go_simp) ?_
        try simp only [List.getElem_toArray, List.getElem_cons_succ, List.getElem_cons_zero, Act.put, List.setIfInBounds_toArray, List.set_cons_succ, List.set_cons_zero]
        refine wpAnyV_take (i := 20) (v := .int .u32 (s1 : Int)) 8 (kept_below w11) rfl (by kernel_rfl) (by kernel_rfl) (fun _ _ _ h => h) (fun _ h => h) (DoesV.reads (by rfl) fun w9 hS => by have q0 := cell_bS hS k0; go_simp) ?_
        try simp only [List.getElem_toArray, List.getElem_cons_succ, List.getElem_cons_zero, Act.put, List.setIfInBounds_toArray, List.set_cons_succ, List.set_cons_zero]
        refine wpAnyV_take (i := 21) (v := .int .u32 ((s2 - s1 : Nat) : Int)) 8 (kept_below w11) rfl (by kernel_rfl) (by kernel_rfl) (fun _ _ _ h => h) (fun _ h => h) (DoesV.reads (by rfl) fun w9 hS => by have z1 : s1 ≤ s2 := HLE.out; have z2 : s2 < 4294967296 := HS.out.2; rw [Int.ofNat_sub z1]; go_simp; try simp (disch := omega) only [IntWalk.i64_in, IntWalk.u32_in, IntWalk.u64_in]) ?_
        try simp only [List.getElem_toArray, List.getElem_cons_succ, List.getElem_cons_zero, Act.put, List.setIfInBounds_toArray, List.set_cons_succ, List.set_cons_zero]
        refine wpAnyV_take (i := 22) (v := .int .u64 ((s2 - s1 : Nat) : Int)) 8 (kept_below w11) rfl (by kernel_rfl) (by kernel_rfl) (fun _ _ _ h => h) (fun _ h => h) (DoesV.reads (by rfl) fun w9 hS => by have z2 : s2 - s1 < 4294967296 := (by have z2 : s2 < 4294967296 := HS.out.2; omega); go_simp; try simp (disch := omega) only [IntWalk.i64_in, IntWalk.u32_in, IntWalk.u64_in]) ?_
        try simp only [List.getElem_toArray, List.getElem_cons_succ, List.getElem_cons_zero, Act.put, List.setIfInBounds_toArray, List.set_cons_succ, List.set_cons_zero]
        refine wpAnyV_take (i := 23) (v := .int .u64 (lenP ra : Int)) 8 (kept_below w11) rfl (by kernel_rfl) (by kernel_rfl) (fun _ _ _ h => h) (fun _ h => h) (DoesV.reads (by rfl) fun w9 hS => by rw [HSL.out]; have z2 : s2 - s1 < 4294967296 := (by have z2 : s2 < 4294967296 := HS.out.2; omega); have z4 := HLC4.out; go_simp; try simp (disch := omega) only [IntWalk.i64_in, IntWalk.u32_in, IntWalk.u64_in]) ?_
        try simp only [List.getElem_toArray, List.getElem_cons_succ, List.getElem_cons_zero, Act.put, List.setIfInBounds_toArray, List.set_cons_succ, List.set_cons_zero]
        refine wpAnyV_take (i := 24) (v := .bool true) 8 (kept_below w11) rfl (by kernel_rfl) (by kernel_rfl) (fun _ _ _ h => h) (fun _ h => h) (DoesV.reads (by rfl) fun w9 hS => by go_simp) ?_
        try simp only [List.getElem_toArray, List.getElem_cons_succ, List.getElem_cons_zero, Act.put, List.setIfInBounds_toArray, List.set_cons_succ, List.set_cons_zero]
        refine wpAnyV_take (i := 25) (v := .bool true) 8 (kept_below w11) rfl (by kernel_rfl) (by kernel_rfl) (fun _ _ _ h => h) (fun _ h => h) (DoesV.reads (by rfl) fun w9 hS => by go_simp) ?_
        try simp only [List.getElem_toArray, List.getElem_cons_succ, List.getElem_cons_zero, Act.put, List.setIfInBounds_toArray, List.set_cons_succ, List.set_cons_zero]
        refine wpAnyV_take (i := 26) (v := .bool true) 8 (kept_below w11) rfl (by kernel_rfl) (by kernel_rfl) (fun _ _ _ h => h) (fun _ h => h) (DoesV.reads (by rfl) fun w9 hS => by go_simp) ?_
        try simp only [List.getElem_toArray, List.getElem_cons_succ, List.getElem_cons_zero, Act.put, List.setIfInBounds_toArray, List.set_cons_succ, List.set_cons_zero]
        refine wpAnyV_take (i := 27) (v := .bool true) 8 (kept_below w11) rfl (by kernel_rfl) (by kernel_rfl) (fun _ _ _ h => h) (fun _ h => h) (DoesV.calls 7 #[] (by rfl) (fun w9 hS => by go_simp) (fun w9 hS => lives12_v HK.out w9)) ?_
        try simp only [List.getElem_toArray, List.getElem_cons_succ, List.getElem_cons_zero, Act.put, List.setIfInBounds_toArray, List.set_cons_succ, List.set_cons_zero]
        refine wpAnyV_take (i := 28) (v := .bool true) 8 (kept_below w11) rfl (by kernel_rfl) (by kernel_rfl) (fun _ _ _ h => h) (fun _ h => h) (DoesV.reads (by rfl) fun w9 hS => by go_simp) ?_
        try simp only [List.getElem_toArray, List.getElem_cons_succ, List.getElem_cons_zero, Act.put, List.setIfInBounds_toArray, List.set_cons_succ, List.set_cons_zero]
        refine wpAnyV_take (i := 29) (v := .bool true) 8 (kept_below w11) rfl (by kernel_rfl) (by kernel_rfl) (fun _ _ _ h => h) (fun _ h => h) (DoesV.reads (by rfl) fun w9 hS => by go_simp) ?_
        try simp only [List.getElem_toArray, List.getElem_cons_succ, List.getElem_cons_zero, Act.put, List.setIfInBounds_toArray, List.set_cons_succ, List.set_cons_zero]
        refine wpAnyV_done (by kernel_rfl) (fun y hu => ?_) _
        have K0_10 := Lib.hid (below_chain K0_9.out hu)
        have Ka_10 := Lib.hid (below_chain Ka_9.out hu)
        have Kc_10 := Lib.hid (below_chain Kc_9.out hu)
        have Kd_10 := Lib.hid (below_chain Kd_9.out hu)
        clear hu k0 k1
        go_wp2_with fail
        go_ret
        exact ⟨rfl, below_chain B2.out K0_10.out⟩
      · skip
        go_wp2_with fail
        refine (HK.out.has ra x Aa ca w7 (by have := HLA.out; have := HLC.out; have := HLN.out; omega) HX.out (HRA.out.below Ka_5.out)).mono ?_
        rintro e w8 ⟨rfl, hb⟩
        have K0_6 := Lib.hid (below_chain K0_5.out hb)
        have Ka_6 := Lib.hid (below_chain Ka_5.out hb)
        have Kc_6 := Lib.hid (below_chain Kc_5.out hb)
        have Kd_6 := Lib.hid (hb)
        clear hb
        rw [HHA.out]
        go_wp2_with fail
        refine (HK.out.has l x A c w8 (by have := HLA.out; have := HLC.out; have := HLN.out; omega) HX.out ((HL.out.below B2.out).below K0_6.out)).mono ?_
        rintro e w9 ⟨rfl, hb⟩
        have K0_7 := Lib.hid (below_chain K0_6.out hb)
        have Ka_7 := Lib.hid (below_chain Ka_6.out hb)
        have Kc_7 := Lib.hid (below_chain Kc_6.out hb)
        have Kd_7 := Lib.hid (below_chain Kd_6.out hb)
        clear hb
        rw [HHL.out]
        go_wp2_with fail
        refine (HK.out.has rc x Ac cc w9 (by have := HLA.out; have := HLC.out; have := HLN.out; omega) HX.out (HRC.out.below Kc_7.out)).mono ?_
        rintro e w10 ⟨rfl, hb⟩
        have K0_8 := Lib.hid (below_chain K0_7.out hb)
        have Ka_8 := Lib.hid (below_chain Ka_7.out hb)
        have Kc_8 := Lib.hid (below_chain Kc_7.out hb)
        have Kd_8 := Lib.hid (below_chain Kd_7.out hb)
        clear hb
        rw [HHC.out]
        go_wp2_with fail
        refine (HK.out.has l x A c w10 (by have := HLA.out; have := HLC.out; have := HLN.out; omega) HX.out ((HL.out.below B2.out).below K0_8.out)).mono ?_
        rintro e w11 ⟨rfl, hb⟩
        have K0_9 := Lib.hid (below_chain K0_8.out hb)
        have Ka_9 := Lib.hid (below_chain Ka_8.out hb)
        have Kc_9 := Lib.hid (below_chain Kc_8.out hb)
        have Kd_9 := Lib.hid (below_chain Kd_8.out hb)
        clear hb
        rw [HHL.out]
        go_wp2_with fail
        have k0 : w11.cell? ⟨g1, 0, none⟩ = some (.int .u32 (s1 : Int)) := (C2.out.below K0_9.out C2.out.lt).cell 0 rfl
        have k1 : w11.cell? ⟨g1, 1, none⟩ = some (.int .u32 (s2 : Int)) := (C2.out.below K0_9.out C2.out.lt).cell 1 rfl
        have HSL := Lib.hid (sets_len HLE.out HA.out HC.out)
        have HLC4 := Lib.hid (show lenP rc ≤ 4294967296 by unfold lenP; rw [HC.out.1]; exact lenS_32 HC.out.1 fun t ht => (HRC.out.1.lt32 t ht).2)
        refine wp_region_V [] (Below w11.heap.size w11) hmix ((Below.refl _ _).drew) ?_
        change wpAnyV _ _ _ _ _ _ _ _ _
        refine wpAnyV_take (i := 0) (v := .int .i64 0) 8 (kept_below w11) rfl (by kernel_rfl) (by kernel_rfl) (fun _ _ _ h => h) (fun _ h => h) (DoesV.reads (by rfl) fun w9 hS => by go_simp) ?_
        try simp only [List.getElem_toArray, List.getElem_cons_succ, List.getElem_cons_zero, Act.put, List.setIfInBounds_toArray, List.set_cons_succ, List.set_cons_zero]
        refine wpAnyV_take (i := 1) (v := .bool true) 8 (kept_below w11) rfl (by kernel_rfl) (by kernel_rfl) (fun _ _ _ h => h) (fun _ h => h) (DoesV.reads (by rfl) fun w9 hS => by go_simp) ?_
        try simp only [List.getElem_toArray, List.getElem_cons_succ, List.getElem_cons_zero, Act.put, List.setIfInBounds_toArray, List.set_cons_succ, List.set_cons_zero]
        refine wpAnyV_take (i := 2) (v := .bool true) 8 (kept_below w11) rfl (by kernel_rfl) (by kernel_rfl) (fun _ _ _ h => h) (fun _ h => h) (DoesV.reads (by rfl) fun w9 hS => by go_simp) ?_
        try simp only [List.getElem_toArray, List.getElem_cons_succ, List.getElem_cons_zero, Act.put, List.setIfInBounds_toArray, List.set_cons_succ, List.set_cons_zero]
        refine wpAnyV_take (i := 3) (v := .slice Ac rc.length cc) 8 (kept_below w11) rfl (by kernel_rfl) (by kernel_rfl) (fun _ _ _ h => h) (fun _ h => h) (DoesV.reads (by rfl) fun w9 hS => by go_simp) ?_
        try simp only [List.getElem_toArray, List.getElem_cons_succ, List.getElem_cons_zero, Act.put, List.setIfInBounds_toArray, List.set_cons_succ, List.set_cons_zero]
        refine wpAnyV_take (i := 4) (v := .slice Ad rc.length cd) 8 (kept_below w11) rfl (by kernel_rfl) (by kernel_rfl) (fun _ _ _ h => h) (fun _ h => h) (DoesV.reads (by rfl) fun w9 hS => by go_simp) ?_
        try simp only [List.getElem_toArray, List.getElem_cons_succ, List.getElem_cons_zero, Act.put, List.setIfInBounds_toArray, List.set_cons_succ, List.set_cons_zero]
        refine wpAnyV_take (i := 5) (v := .bool true) 8 (kept_below w11) rfl (by kernel_rfl) (by kernel_rfl) (fun _ _ _ h => h) (fun _ h => h) (DoesV.calls 12 #[.slice Ac rc.length cc, .slice Ad rc.length cd] (by rfl) (fun w9 hS => by go_simp) (fun w9 hS => (Spans_any rc rc Ac Ad cc cd _ _ w9 (by have := HLC.out; have := HLN.out; omega) (by have := HLC.out; have := HLN.out; omega) ((HRC.out.below Kc_9.out).below hS).1 ((HRD.out.below Kd_9.out).below hS).1).mono fun e u h => ⟨by rw [h.1, decide_eq_true (rfl : rc = rc)], h.2⟩)) ?_
        try simp only [List.getElem_toArray, List.getElem_cons_succ, List.getElem_cons_zero, Act.put, List.setIfInBounds_toArray, List.set_cons_succ, List.set_cons_zero]
        refine wpAnyV_take (i := 6) (v := .bool true) 8 (kept_below w11) rfl (by kernel_rfl) (by kernel_rfl) (fun _ _ _ h => h) (fun _ h => h) (DoesV.reads (by rfl) fun w9 hS => by go_simp) ?_
        try simp only [List.getElem_toArray, List.getElem_cons_succ, List.getElem_cons_zero, Act.put, List.setIfInBounds_toArray, List.set_cons_succ, List.set_cons_zero]
        refine wpAnyV_take (i := 7) (v := .bool true) 8 (kept_below w11) rfl (by kernel_rfl) (by kernel_rfl) (fun _ _ _ h => h) (fun _ h => h) (DoesV.reads (by rfl) fun w9 hS => by go_simp) ?_
        try simp only [List.getElem_toArray, List.getElem_cons_succ, List.getElem_cons_zero, Act.put, List.setIfInBounds_toArray, List.set_cons_succ, List.set_cons_zero]
        refine wpAnyV_take (i := 8) (v := .slice Aa ra.length ca) 8 (kept_below w11) rfl (by kernel_rfl) (by kernel_rfl) (fun _ _ _ h => h) (fun _ h => h) (DoesV.reads (by rfl) fun w9 hS => by go_simp) ?_
        try simp only [List.getElem_toArray, List.getElem_cons_succ, List.getElem_cons_zero, Act.put, List.setIfInBounds_toArray, List.set_cons_succ, List.set_cons_zero]
        refine wpAnyV_take (i := 9) (v := .agg (spC (s1, s2)).toArray) 8 (kept_below w11) rfl (by kernel_rfl) (by kernel_rfl) (fun _ _ _ h => h) (fun _ h => h) (DoesV.loadSp (by rfl) _ rfl g1 rfl (s1, s2) (fun w9 hS => (C2.out.below K0_9.out C2.out.lt).below hS (C2.out.below K0_9.out C2.out.lt).lt)) ?_
        try simp only [List.getElem_toArray, List.getElem_cons_succ, List.getElem_cons_zero, Act.put, List.setIfInBounds_toArray, List.set_cons_succ, List.set_cons_zero]
        refine wpAnyV_take (i := 10) (v := .bool true) 8 (kept_below w11) rfl (by kernel_rfl) (by kernel_rfl) (fun _ _ _ h => h) (fun _ h => h) (DoesV.calls 17 #[.slice Aa ra.length ca, .agg (spC (s1, s2)).toArray] (by rfl) (fun w9 hS => by go_simp) (fun w9 hS => (HK.out.holds ra (s1, s2) Aa ca w9 (by have := HLA.out; have := HLN.out; omega) HS.out ((HRA.out.below Ka_9.out).below hS)).mono fun e u h => ⟨by rw [h.1, HA.out.holds HLE.out], h.2⟩)) ?_
        try simp only [List.getElem_toArray, List.getElem_cons_succ, List.getElem_cons_zero, Act.put, List.setIfInBounds_toArray, List.set_cons_succ, List.set_cons_zero]
        refine wpAnyV_take (i := 11) (v := .bool true) 8 (kept_below w11) rfl (by kernel_rfl) (by kernel_rfl) (fun _ _ _ h => h) (fun _ h => h) (DoesV.reads (by rfl) fun w9 hS => by go_simp) ?_
        try simp only [List.getElem_toArray, List.getElem_cons_succ, List.getElem_cons_zero, Act.put, List.setIfInBounds_toArray, List.set_cons_succ, List.set_cons_zero]
        refine wpAnyV_take (i := 12) (v := .bool true) 8 (kept_below w11) rfl (by kernel_rfl) (by kernel_rfl) (fun _ _ _ h => h) (fun _ h => h) (DoesV.reads (by rfl) fun w9 hS => by go_simp) ?_
        try simp only [List.getElem_toArray, List.getElem_cons_succ, List.getElem_cons_zero, Act.put, List.setIfInBounds_toArray, List.set_cons_succ, List.set_cons_zero]
        refine wpAnyV_take (i := 13) (v := .slice Aa ra.length ca) 8 (kept_below w11) rfl (by kernel_rfl) (by kernel_rfl) (fun _ _ _ h => h) (fun _ h => h) (DoesV.reads (by rfl) fun w9 hS => by go_simp) ?_
        try simp only [List.getElem_toArray, List.getElem_cons_succ, List.getElem_cons_zero, Act.put, List.setIfInBounds_toArray, List.set_cons_succ, List.set_cons_zero]
        refine wpAnyV_take (i := 14) (v := .int .u64 (lenP ra : Int)) 8 (kept_below w11) rfl (by kernel_rfl) (by kernel_rfl) (fun _ _ _ h => h) (fun _ h => h) (DoesV.calls 19 #[.slice Aa ra.length ca] (by rfl) (fun w9 hS => by go_simp) (fun w9 hS => HK.out.len ra Aa ca w9 (by have := HLA.out; have := HLN.out; omega) ((HRA.out.below Ka_9.out).below hS))) ?_
        try simp only [List.getElem_toArray, List.getElem_cons_succ, List.getElem_cons_zero, Act.put, List.setIfInBounds_toArray, List.set_cons_succ, List.set_cons_zero]
        refine wpAnyV_take (i := 15) (v := .slice Ac rc.length cc) 8 (kept_below w11) rfl (by kernel_rfl) (by kernel_rfl) (fun _ _ _ h => h) (fun _ h => h) (DoesV.reads (by rfl) fun w9 hS => by go_simp) ?_
        try simp only [List.getElem_toArray, List.getElem_cons_succ, List.getElem_cons_zero, Act.put, List.setIfInBounds_toArray, List.set_cons_succ, List.set_cons_zero]
        refine wpAnyV_take (i := 16) (v := .int .u64 (lenP rc : Int)) 8 (kept_below w11) rfl (by kernel_rfl) (by kernel_rfl) (fun _ _ _ h => h) (fun _ h => h) (DoesV.calls 19 #[.slice Ac rc.length cc] (by rfl) (fun w9 hS => by go_simp) (fun w9 hS => HK.out.len rc Ac cc w9 (by have := HLC.out; have := HLN.out; omega) ((HRC.out.below Kc_9.out).below hS))) ?_
        try simp only [List.getElem_toArray, List.getElem_cons_succ, List.getElem_cons_zero, Act.put, List.setIfInBounds_toArray, List.set_cons_succ, List.set_cons_zero]
        refine wpAnyV_take (i := 17) (v := .pointer (some ⟨g1, 1, none⟩)) 8 (kept_below w11) rfl (by kernel_rfl) (by kernel_rfl) (fun _ _ _ h => h) (fun _ h => h) (DoesV.reads (by rfl) fun w9 hS => by go_simp) ?_
        try simp only [List.getElem_toArray, List.getElem_cons_succ, List.getElem_cons_zero, Act.put, List.setIfInBounds_toArray, List.set_cons_succ, List.set_cons_zero]
        refine wpAnyV_take (i := 18) (v := .int .u32 (s2 : Int)) 8 (kept_below w11) rfl (by kernel_rfl) (by kernel_rfl) (fun _ _ _ h => h) (fun _ h => h) (DoesV.reads (by rfl) fun w9 hS => by have q0 := cell_bS hS k1; go_simp) ?_
        try simp only [List.getElem_toArray, List.getElem_cons_succ, List.getElem_cons_zero, Act.put, List.setIfInBounds_toArray, List.set_cons_succ, List.set_cons_zero]
        refine wpAnyV_take (i := 19) (v := .pointer (some ⟨g1, 0, none⟩)) 8 (kept_below w11) rfl (by kernel_rfl) (by kernel_rfl) (fun _ _ _ h => h) (fun _ h => h) (DoesV.reads (by rfl) fun w9 hS => by go_simp) ?_
        try simp only [List.getElem_toArray, List.getElem_cons_succ, List.getElem_cons_zero, Act.put, List.setIfInBounds_toArray, List.set_cons_succ, List.set_cons_zero]
        refine wpAnyV_take (i := 20) (v := .int .u32 (s1 : Int)) 8 (kept_below w11) rfl (by kernel_rfl) (by kernel_rfl) (fun _ _ _ h => h) (fun _ h => h) (DoesV.reads (by rfl) fun w9 hS => by have q0 := cell_bS hS k0; go_simp) ?_
        try simp only [List.getElem_toArray, List.getElem_cons_succ, List.getElem_cons_zero, Act.put, List.setIfInBounds_toArray, List.set_cons_succ, List.set_cons_zero]
        refine wpAnyV_take (i := 21) (v := .int .u32 ((s2 - s1 : Nat) : Int)) 8 (kept_below w11) rfl (by kernel_rfl) (by kernel_rfl) (fun _ _ _ h => h) (fun _ h => h) (DoesV.reads (by rfl) fun w9 hS => by have z1 : s1 ≤ s2 := HLE.out; have z2 : s2 < 4294967296 := HS.out.2; rw [Int.ofNat_sub z1]; go_simp; try simp (disch := omega) only [IntWalk.i64_in, IntWalk.u32_in, IntWalk.u64_in]) ?_
        try simp only [List.getElem_toArray, List.getElem_cons_succ, List.getElem_cons_zero, Act.put, List.setIfInBounds_toArray, List.set_cons_succ, List.set_cons_zero]
        refine wpAnyV_take (i := 22) (v := .int .u64 ((s2 - s1 : Nat) : Int)) 8 (kept_below w11) rfl (by kernel_rfl) (by kernel_rfl) (fun _ _ _ h => h) (fun _ h => h) (DoesV.reads (by rfl) fun w9 hS => by have z2 : s2 - s1 < 4294967296 := (by have z2 : s2 < 4294967296 := HS.out.2; omega); go_simp; try simp (disch := omega) only [IntWalk.i64_in, IntWalk.u32_in, IntWalk.u64_in]) ?_
        try simp only [List.getElem_toArray, List.getElem_cons_succ, List.getElem_cons_zero, Act.put, List.setIfInBounds_toArray, List.set_cons_succ, List.set_cons_zero]
        refine wpAnyV_take (i := 23) (v := .int .u64 (lenP ra : Int)) 8 (kept_below w11) rfl (by kernel_rfl) (by kernel_rfl) (fun _ _ _ h => h) (fun _ h => h) (DoesV.reads (by rfl) fun w9 hS => by rw [HSL.out]; have z2 : s2 - s1 < 4294967296 := (by have z2 : s2 < 4294967296 := HS.out.2; omega); have z4 := HLC4.out; go_simp; try simp (disch := omega) only [IntWalk.i64_in, IntWalk.u32_in, IntWalk.u64_in]) ?_
        try simp only [List.getElem_toArray, List.getElem_cons_succ, List.getElem_cons_zero, Act.put, List.setIfInBounds_toArray, List.set_cons_succ, List.set_cons_zero]
        refine wpAnyV_take (i := 24) (v := .bool true) 8 (kept_below w11) rfl (by kernel_rfl) (by kernel_rfl) (fun _ _ _ h => h) (fun _ h => h) (DoesV.reads (by rfl) fun w9 hS => by go_simp) ?_
        try simp only [List.getElem_toArray, List.getElem_cons_succ, List.getElem_cons_zero, Act.put, List.setIfInBounds_toArray, List.set_cons_succ, List.set_cons_zero]
        refine wpAnyV_take (i := 25) (v := .bool true) 8 (kept_below w11) rfl (by kernel_rfl) (by kernel_rfl) (fun _ _ _ h => h) (fun _ h => h) (DoesV.reads (by rfl) fun w9 hS => by go_simp) ?_
        try simp only [List.getElem_toArray, List.getElem_cons_succ, List.getElem_cons_zero, Act.put, List.setIfInBounds_toArray, List.set_cons_succ, List.set_cons_zero]
        refine wpAnyV_take (i := 26) (v := .bool true) 8 (kept_below w11) rfl (by kernel_rfl) (by kernel_rfl) (fun _ _ _ h => h) (fun _ h => h) (DoesV.reads (by rfl) fun w9 hS => by go_simp) ?_
        try simp only [List.getElem_toArray, List.getElem_cons_succ, List.getElem_cons_zero, Act.put, List.setIfInBounds_toArray, List.set_cons_succ, List.set_cons_zero]
        refine wpAnyV_take (i := 27) (v := .bool true) 8 (kept_below w11) rfl (by kernel_rfl) (by kernel_rfl) (fun _ _ _ h => h) (fun _ h => h) (DoesV.calls 7 #[] (by rfl) (fun w9 hS => by go_simp) (fun w9 hS => lives12_v HK.out w9)) ?_
        try simp only [List.getElem_toArray, List.getElem_cons_succ, List.getElem_cons_zero, Act.put, List.setIfInBounds_toArray, List.set_cons_succ, List.set_cons_zero]
        refine wpAnyV_take (i := 28) (v := .bool true) 8 (kept_below w11) rfl (by kernel_rfl) (by kernel_rfl) (fun _ _ _ h => h) (fun _ h => h) (DoesV.reads (by rfl) fun w9 hS => by go_simp) ?_
        try simp only [List.getElem_toArray, List.getElem_cons_succ, List.getElem_cons_zero, Act.put, List.setIfInBounds_toArray, List.set_cons_succ, List.set_cons_zero]
        refine wpAnyV_take (i := 29) (v := .bool true) 8 (kept_below w11) rfl (by kernel_rfl) (by kernel_rfl) (fun _ _ _ h => h) (fun _ h => h) (DoesV.reads (by rfl) fun w9 hS => by go_simp) ?_
        try simp only [List.getElem_toArray, List.getElem_cons_succ, List.getElem_cons_zero, Act.put, List.setIfInBounds_toArray, List.set_cons_succ, List.set_cons_zero]
        refine wpAnyV_done (by kernel_rfl) (fun y hu => ?_) _
        have K0_10 := Lib.hid (below_chain K0_9.out hu)
        have Ka_10 := Lib.hid (below_chain Ka_9.out hu)
        have Kc_10 := Lib.hid (below_chain Kc_9.out hu)
        have Kd_10 := Lib.hid (below_chain Kd_9.out hu)
        clear hu k0 k1
        go_wp2_with fail
        go_ret
        exact ⟨rfl, below_chain B2.out K0_10.out⟩
  · have HOW := Lib.hid (HFa.out fun h => h1 h.1)
    have e1 : ¬ (s1 : Int) ≤ x := by omega
    clear HT HFa
    rw [HOW.out] at HHA HHC
    simp only [Bool.or_false, Bool.not_false, Bool.and_true] at HHA HHC
    generalize memS l x = m at *
    cases m
    · skip
      go_wp2_with fail
      refine (HK.out.has ra x Aa ca w7 (by have := HLA.out; have := HLC.out; have := HLN.out; omega) HX.out (HRA.out.below Ka_5.out)).mono ?_
      rintro e w8 ⟨rfl, hb⟩
      have K0_6 := Lib.hid (below_chain K0_5.out hb)
      have Ka_6 := Lib.hid (below_chain Ka_5.out hb)
      have Kc_6 := Lib.hid (below_chain Kc_5.out hb)
      have Kd_6 := Lib.hid (hb)
      clear hb
      rw [HHA.out]
      go_wp2_with fail
      refine (HK.out.has l x A c w8 (by have := HLA.out; have := HLC.out; have := HLN.out; omega) HX.out ((HL.out.below B2.out).below K0_6.out)).mono ?_
      rintro e w9 ⟨rfl, hb⟩
      have K0_7 := Lib.hid (below_chain K0_6.out hb)
      have Ka_7 := Lib.hid (below_chain Ka_6.out hb)
      have Kc_7 := Lib.hid (below_chain Kc_6.out hb)
      have Kd_7 := Lib.hid (below_chain Kd_6.out hb)
      clear hb
      rw [HHL.out]
      go_wp2_with fail
      refine (HK.out.has rc x Ac cc w9 (by have := HLA.out; have := HLC.out; have := HLN.out; omega) HX.out (HRC.out.below Kc_7.out)).mono ?_
      rintro e w10 ⟨rfl, hb⟩
      have K0_8 := Lib.hid (below_chain K0_7.out hb)
      have Ka_8 := Lib.hid (below_chain Ka_7.out hb)
      have Kc_8 := Lib.hid (below_chain Kc_7.out hb)
      have Kd_8 := Lib.hid (below_chain Kd_7.out hb)
      clear hb
      rw [HHC.out]
      go_wp2_with fail
      refine (HK.out.has l x A c w10 (by have := HLA.out; have := HLC.out; have := HLN.out; omega) HX.out ((HL.out.below B2.out).below K0_8.out)).mono ?_
      rintro e w11 ⟨rfl, hb⟩
      have K0_9 := Lib.hid (below_chain K0_8.out hb)
      have Ka_9 := Lib.hid (below_chain Ka_8.out hb)
      have Kc_9 := Lib.hid (below_chain Kc_8.out hb)
      have Kd_9 := Lib.hid (below_chain Kd_8.out hb)
      clear hb
      rw [HHL.out]
      go_wp2_with fail
      have k0 : w11.cell? ⟨g1, 0, none⟩ = some (.int .u32 (s1 : Int)) := (C2.out.below K0_9.out C2.out.lt).cell 0 rfl
      have k1 : w11.cell? ⟨g1, 1, none⟩ = some (.int .u32 (s2 : Int)) := (C2.out.below K0_9.out C2.out.lt).cell 1 rfl
      have HSL := Lib.hid (sets_len HLE.out HA.out HC.out)
      have HLC4 := Lib.hid (show lenP rc ≤ 4294967296 by unfold lenP; rw [HC.out.1]; exact lenS_32 HC.out.1 fun t ht => (HRC.out.1.lt32 t ht).2)
      refine wp_region_V [] (Below w11.heap.size w11) hmix ((Below.refl _ _).drew) ?_
      change wpAnyV _ _ _ _ _ _ _ _ _
      refine wpAnyV_take (i := 0) (v := .int .i64 0) 8 (kept_below w11) rfl (by kernel_rfl) (by kernel_rfl) (fun _ _ _ h => h) (fun _ h => h) (DoesV.reads (by rfl) fun w9 hS => by go_simp) ?_
      try simp only [List.getElem_toArray, List.getElem_cons_succ, List.getElem_cons_zero, Act.put, List.setIfInBounds_toArray, List.set_cons_succ, List.set_cons_zero]
      refine wpAnyV_take (i := 1) (v := .bool true) 8 (kept_below w11) rfl (by kernel_rfl) (by kernel_rfl) (fun _ _ _ h => h) (fun _ h => h) (DoesV.reads (by rfl) fun w9 hS => by go_simp) ?_
      try simp only [List.getElem_toArray, List.getElem_cons_succ, List.getElem_cons_zero, Act.put, List.setIfInBounds_toArray, List.set_cons_succ, List.set_cons_zero]
      refine wpAnyV_take (i := 2) (v := .bool true) 8 (kept_below w11) rfl (by kernel_rfl) (by kernel_rfl) (fun _ _ _ h => h) (fun _ h => h) (DoesV.reads (by rfl) fun w9 hS => by go_simp) ?_
      try simp only [List.getElem_toArray, List.getElem_cons_succ, List.getElem_cons_zero, Act.put, List.setIfInBounds_toArray, List.set_cons_succ, List.set_cons_zero]
      refine wpAnyV_take (i := 3) (v := .slice Ac rc.length cc) 8 (kept_below w11) rfl (by kernel_rfl) (by kernel_rfl) (fun _ _ _ h => h) (fun _ h => h) (DoesV.reads (by rfl) fun w9 hS => by go_simp) ?_
      try simp only [List.getElem_toArray, List.getElem_cons_succ, List.getElem_cons_zero, Act.put, List.setIfInBounds_toArray, List.set_cons_succ, List.set_cons_zero]
      refine wpAnyV_take (i := 4) (v := .slice Ad rc.length cd) 8 (kept_below w11) rfl (by kernel_rfl) (by kernel_rfl) (fun _ _ _ h => h) (fun _ h => h) (DoesV.reads (by rfl) fun w9 hS => by go_simp) ?_
      try simp only [List.getElem_toArray, List.getElem_cons_succ, List.getElem_cons_zero, Act.put, List.setIfInBounds_toArray, List.set_cons_succ, List.set_cons_zero]
      refine wpAnyV_take (i := 5) (v := .bool true) 8 (kept_below w11) rfl (by kernel_rfl) (by kernel_rfl) (fun _ _ _ h => h) (fun _ h => h) (DoesV.calls 12 #[.slice Ac rc.length cc, .slice Ad rc.length cd] (by rfl) (fun w9 hS => by go_simp) (fun w9 hS => (Spans_any rc rc Ac Ad cc cd _ _ w9 (by have := HLC.out; have := HLN.out; omega) (by have := HLC.out; have := HLN.out; omega) ((HRC.out.below Kc_9.out).below hS).1 ((HRD.out.below Kd_9.out).below hS).1).mono fun e u h => ⟨by rw [h.1, decide_eq_true (rfl : rc = rc)], h.2⟩)) ?_
      try simp only [List.getElem_toArray, List.getElem_cons_succ, List.getElem_cons_zero, Act.put, List.setIfInBounds_toArray, List.set_cons_succ, List.set_cons_zero]
      refine wpAnyV_take (i := 6) (v := .bool true) 8 (kept_below w11) rfl (by kernel_rfl) (by kernel_rfl) (fun _ _ _ h => h) (fun _ h => h) (DoesV.reads (by rfl) fun w9 hS => by go_simp) ?_
      try simp only [List.getElem_toArray, List.getElem_cons_succ, List.getElem_cons_zero, Act.put, List.setIfInBounds_toArray, List.set_cons_succ, List.set_cons_zero]
      refine wpAnyV_take (i := 7) (v := .bool true) 8 (kept_below w11) rfl (by kernel_rfl) (by kernel_rfl) (fun _ _ _ h => h) (fun _ h => h) (DoesV.reads (by rfl) fun w9 hS => by go_simp) ?_
      try simp only [List.getElem_toArray, List.getElem_cons_succ, List.getElem_cons_zero, Act.put, List.setIfInBounds_toArray, List.set_cons_succ, List.set_cons_zero]
      refine wpAnyV_take (i := 8) (v := .slice Aa ra.length ca) 8 (kept_below w11) rfl (by kernel_rfl) (by kernel_rfl) (fun _ _ _ h => h) (fun _ h => h) (DoesV.reads (by rfl) fun w9 hS => by go_simp) ?_
      try simp only [List.getElem_toArray, List.getElem_cons_succ, List.getElem_cons_zero, Act.put, List.setIfInBounds_toArray, List.set_cons_succ, List.set_cons_zero]
      refine wpAnyV_take (i := 9) (v := .agg (spC (s1, s2)).toArray) 8 (kept_below w11) rfl (by kernel_rfl) (by kernel_rfl) (fun _ _ _ h => h) (fun _ h => h) (DoesV.loadSp (by rfl) _ rfl g1 rfl (s1, s2) (fun w9 hS => (C2.out.below K0_9.out C2.out.lt).below hS (C2.out.below K0_9.out C2.out.lt).lt)) ?_
      try simp only [List.getElem_toArray, List.getElem_cons_succ, List.getElem_cons_zero, Act.put, List.setIfInBounds_toArray, List.set_cons_succ, List.set_cons_zero]
      refine wpAnyV_take (i := 10) (v := .bool true) 8 (kept_below w11) rfl (by kernel_rfl) (by kernel_rfl) (fun _ _ _ h => h) (fun _ h => h) (DoesV.calls 17 #[.slice Aa ra.length ca, .agg (spC (s1, s2)).toArray] (by rfl) (fun w9 hS => by go_simp) (fun w9 hS => (HK.out.holds ra (s1, s2) Aa ca w9 (by have := HLA.out; have := HLN.out; omega) HS.out ((HRA.out.below Ka_9.out).below hS)).mono fun e u h => ⟨by rw [h.1, HA.out.holds HLE.out], h.2⟩)) ?_
      try simp only [List.getElem_toArray, List.getElem_cons_succ, List.getElem_cons_zero, Act.put, List.setIfInBounds_toArray, List.set_cons_succ, List.set_cons_zero]
      refine wpAnyV_take (i := 11) (v := .bool true) 8 (kept_below w11) rfl (by kernel_rfl) (by kernel_rfl) (fun _ _ _ h => h) (fun _ h => h) (DoesV.reads (by rfl) fun w9 hS => by go_simp) ?_
      try simp only [List.getElem_toArray, List.getElem_cons_succ, List.getElem_cons_zero, Act.put, List.setIfInBounds_toArray, List.set_cons_succ, List.set_cons_zero]
      refine wpAnyV_take (i := 12) (v := .bool true) 8 (kept_below w11) rfl (by kernel_rfl) (by kernel_rfl) (fun _ _ _ h => h) (fun _ h => h) (DoesV.reads (by rfl) fun w9 hS => by go_simp) ?_
      try simp only [List.getElem_toArray, List.getElem_cons_succ, List.getElem_cons_zero, Act.put, List.setIfInBounds_toArray, List.set_cons_succ, List.set_cons_zero]
      refine wpAnyV_take (i := 13) (v := .slice Aa ra.length ca) 8 (kept_below w11) rfl (by kernel_rfl) (by kernel_rfl) (fun _ _ _ h => h) (fun _ h => h) (DoesV.reads (by rfl) fun w9 hS => by go_simp) ?_
      try simp only [List.getElem_toArray, List.getElem_cons_succ, List.getElem_cons_zero, Act.put, List.setIfInBounds_toArray, List.set_cons_succ, List.set_cons_zero]
      refine wpAnyV_take (i := 14) (v := .int .u64 (lenP ra : Int)) 8 (kept_below w11) rfl (by kernel_rfl) (by kernel_rfl) (fun _ _ _ h => h) (fun _ h => h) (DoesV.calls 19 #[.slice Aa ra.length ca] (by rfl) (fun w9 hS => by go_simp) (fun w9 hS => HK.out.len ra Aa ca w9 (by have := HLA.out; have := HLN.out; omega) ((HRA.out.below Ka_9.out).below hS))) ?_
      try simp only [List.getElem_toArray, List.getElem_cons_succ, List.getElem_cons_zero, Act.put, List.setIfInBounds_toArray, List.set_cons_succ, List.set_cons_zero]
      refine wpAnyV_take (i := 15) (v := .slice Ac rc.length cc) 8 (kept_below w11) rfl (by kernel_rfl) (by kernel_rfl) (fun _ _ _ h => h) (fun _ h => h) (DoesV.reads (by rfl) fun w9 hS => by go_simp) ?_
      try simp only [List.getElem_toArray, List.getElem_cons_succ, List.getElem_cons_zero, Act.put, List.setIfInBounds_toArray, List.set_cons_succ, List.set_cons_zero]
      refine wpAnyV_take (i := 16) (v := .int .u64 (lenP rc : Int)) 8 (kept_below w11) rfl (by kernel_rfl) (by kernel_rfl) (fun _ _ _ h => h) (fun _ h => h) (DoesV.calls 19 #[.slice Ac rc.length cc] (by rfl) (fun w9 hS => by go_simp) (fun w9 hS => HK.out.len rc Ac cc w9 (by have := HLC.out; have := HLN.out; omega) ((HRC.out.below Kc_9.out).below hS))) ?_
      try simp only [List.getElem_toArray, List.getElem_cons_succ, List.getElem_cons_zero, Act.put, List.setIfInBounds_toArray, List.set_cons_succ, List.set_cons_zero]
      refine wpAnyV_take (i := 17) (v := .pointer (some ⟨g1, 1, none⟩)) 8 (kept_below w11) rfl (by kernel_rfl) (by kernel_rfl) (fun _ _ _ h => h) (fun _ h => h) (DoesV.reads (by rfl) fun w9 hS => by go_simp) ?_
      try simp only [List.getElem_toArray, List.getElem_cons_succ, List.getElem_cons_zero, Act.put, List.setIfInBounds_toArray, List.set_cons_succ, List.set_cons_zero]
      refine wpAnyV_take (i := 18) (v := .int .u32 (s2 : Int)) 8 (kept_below w11) rfl (by kernel_rfl) (by kernel_rfl) (fun _ _ _ h => h) (fun _ h => h) (DoesV.reads (by rfl) fun w9 hS => by have q0 := cell_bS hS k1; go_simp) ?_
      try simp only [List.getElem_toArray, List.getElem_cons_succ, List.getElem_cons_zero, Act.put, List.setIfInBounds_toArray, List.set_cons_succ, List.set_cons_zero]
      refine wpAnyV_take (i := 19) (v := .pointer (some ⟨g1, 0, none⟩)) 8 (kept_below w11) rfl (by kernel_rfl) (by kernel_rfl) (fun _ _ _ h => h) (fun _ h => h) (DoesV.reads (by rfl) fun w9 hS => by go_simp) ?_
      try simp only [List.getElem_toArray, List.getElem_cons_succ, List.getElem_cons_zero, Act.put, List.setIfInBounds_toArray, List.set_cons_succ, List.set_cons_zero]
      refine wpAnyV_take (i := 20) (v := .int .u32 (s1 : Int)) 8 (kept_below w11) rfl (by kernel_rfl) (by kernel_rfl) (fun _ _ _ h => h) (fun _ h => h) (DoesV.reads (by rfl) fun w9 hS => by have q0 := cell_bS hS k0; go_simp) ?_
      try simp only [List.getElem_toArray, List.getElem_cons_succ, List.getElem_cons_zero, Act.put, List.setIfInBounds_toArray, List.set_cons_succ, List.set_cons_zero]
      refine wpAnyV_take (i := 21) (v := .int .u32 ((s2 - s1 : Nat) : Int)) 8 (kept_below w11) rfl (by kernel_rfl) (by kernel_rfl) (fun _ _ _ h => h) (fun _ h => h) (DoesV.reads (by rfl) fun w9 hS => by have z1 : s1 ≤ s2 := HLE.out; have z2 : s2 < 4294967296 := HS.out.2; rw [Int.ofNat_sub z1]; go_simp; try simp (disch := omega) only [IntWalk.i64_in, IntWalk.u32_in, IntWalk.u64_in]) ?_
      try simp only [List.getElem_toArray, List.getElem_cons_succ, List.getElem_cons_zero, Act.put, List.setIfInBounds_toArray, List.set_cons_succ, List.set_cons_zero]
      refine wpAnyV_take (i := 22) (v := .int .u64 ((s2 - s1 : Nat) : Int)) 8 (kept_below w11) rfl (by kernel_rfl) (by kernel_rfl) (fun _ _ _ h => h) (fun _ h => h) (DoesV.reads (by rfl) fun w9 hS => by have z2 : s2 - s1 < 4294967296 := (by have z2 : s2 < 4294967296 := HS.out.2; omega); go_simp; try simp (disch := omega) only [IntWalk.i64_in, IntWalk.u32_in, IntWalk.u64_in]) ?_
      try simp only [List.getElem_toArray, List.getElem_cons_succ, List.getElem_cons_zero, Act.put, List.setIfInBounds_toArray, List.set_cons_succ, List.set_cons_zero]
      refine wpAnyV_take (i := 23) (v := .int .u64 (lenP ra : Int)) 8 (kept_below w11) rfl (by kernel_rfl) (by kernel_rfl) (fun _ _ _ h => h) (fun _ h => h) (DoesV.reads (by rfl) fun w9 hS => by rw [HSL.out]; have z2 : s2 - s1 < 4294967296 := (by have z2 : s2 < 4294967296 := HS.out.2; omega); have z4 := HLC4.out; go_simp; try simp (disch := omega) only [IntWalk.i64_in, IntWalk.u32_in, IntWalk.u64_in]) ?_
      try simp only [List.getElem_toArray, List.getElem_cons_succ, List.getElem_cons_zero, Act.put, List.setIfInBounds_toArray, List.set_cons_succ, List.set_cons_zero]
      refine wpAnyV_take (i := 24) (v := .bool true) 8 (kept_below w11) rfl (by kernel_rfl) (by kernel_rfl) (fun _ _ _ h => h) (fun _ h => h) (DoesV.reads (by rfl) fun w9 hS => by go_simp) ?_
      try simp only [List.getElem_toArray, List.getElem_cons_succ, List.getElem_cons_zero, Act.put, List.setIfInBounds_toArray, List.set_cons_succ, List.set_cons_zero]
      refine wpAnyV_take (i := 25) (v := .bool true) 8 (kept_below w11) rfl (by kernel_rfl) (by kernel_rfl) (fun _ _ _ h => h) (fun _ h => h) (DoesV.reads (by rfl) fun w9 hS => by go_simp) ?_
      try simp only [List.getElem_toArray, List.getElem_cons_succ, List.getElem_cons_zero, Act.put, List.setIfInBounds_toArray, List.set_cons_succ, List.set_cons_zero]
      refine wpAnyV_take (i := 26) (v := .bool true) 8 (kept_below w11) rfl (by kernel_rfl) (by kernel_rfl) (fun _ _ _ h => h) (fun _ h => h) (DoesV.reads (by rfl) fun w9 hS => by go_simp) ?_
      try simp only [List.getElem_toArray, List.getElem_cons_succ, List.getElem_cons_zero, Act.put, List.setIfInBounds_toArray, List.set_cons_succ, List.set_cons_zero]
      refine wpAnyV_take (i := 27) (v := .bool true) 8 (kept_below w11) rfl (by kernel_rfl) (by kernel_rfl) (fun _ _ _ h => h) (fun _ h => h) (DoesV.calls 7 #[] (by rfl) (fun w9 hS => by go_simp) (fun w9 hS => lives12_v HK.out w9)) ?_
      try simp only [List.getElem_toArray, List.getElem_cons_succ, List.getElem_cons_zero, Act.put, List.setIfInBounds_toArray, List.set_cons_succ, List.set_cons_zero]
      refine wpAnyV_take (i := 28) (v := .bool true) 8 (kept_below w11) rfl (by kernel_rfl) (by kernel_rfl) (fun _ _ _ h => h) (fun _ h => h) (DoesV.reads (by rfl) fun w9 hS => by go_simp) ?_
      try simp only [List.getElem_toArray, List.getElem_cons_succ, List.getElem_cons_zero, Act.put, List.setIfInBounds_toArray, List.set_cons_succ, List.set_cons_zero]
      refine wpAnyV_take (i := 29) (v := .bool true) 8 (kept_below w11) rfl (by kernel_rfl) (by kernel_rfl) (fun _ _ _ h => h) (fun _ h => h) (DoesV.reads (by rfl) fun w9 hS => by go_simp) ?_
      try simp only [List.getElem_toArray, List.getElem_cons_succ, List.getElem_cons_zero, Act.put, List.setIfInBounds_toArray, List.set_cons_succ, List.set_cons_zero]
      refine wpAnyV_done (by kernel_rfl) (fun y hu => ?_) _
      have K0_10 := Lib.hid (below_chain K0_9.out hu)
      have Ka_10 := Lib.hid (below_chain Ka_9.out hu)
      have Kc_10 := Lib.hid (below_chain Kc_9.out hu)
      have Kd_10 := Lib.hid (below_chain Kd_9.out hu)
      clear hu k0 k1
      go_wp2_with fail
      go_ret
      exact ⟨rfl, below_chain B2.out K0_10.out⟩
    · skip
      go_wp2_with fail
      refine (HK.out.has ra x Aa ca w7 (by have := HLA.out; have := HLC.out; have := HLN.out; omega) HX.out (HRA.out.below Ka_5.out)).mono ?_
      rintro e w8 ⟨rfl, hb⟩
      have K0_6 := Lib.hid (below_chain K0_5.out hb)
      have Ka_6 := Lib.hid (below_chain Ka_5.out hb)
      have Kc_6 := Lib.hid (below_chain Kc_5.out hb)
      have Kd_6 := Lib.hid (hb)
      clear hb
      rw [HHA.out]
      go_wp2_with fail
      refine (HK.out.has l x A c w8 (by have := HLA.out; have := HLC.out; have := HLN.out; omega) HX.out ((HL.out.below B2.out).below K0_6.out)).mono ?_
      rintro e w9 ⟨rfl, hb⟩
      have K0_7 := Lib.hid (below_chain K0_6.out hb)
      have Ka_7 := Lib.hid (below_chain Ka_6.out hb)
      have Kc_7 := Lib.hid (below_chain Kc_6.out hb)
      have Kd_7 := Lib.hid (below_chain Kd_6.out hb)
      clear hb
      rw [HHL.out]
      go_wp2_with fail
      refine (HK.out.has rc x Ac cc w9 (by have := HLA.out; have := HLC.out; have := HLN.out; omega) HX.out (HRC.out.below Kc_7.out)).mono ?_
      rintro e w10 ⟨rfl, hb⟩
      have K0_8 := Lib.hid (below_chain K0_7.out hb)
      have Ka_8 := Lib.hid (below_chain Ka_7.out hb)
      have Kc_8 := Lib.hid (below_chain Kc_7.out hb)
      have Kd_8 := Lib.hid (below_chain Kd_7.out hb)
      clear hb
      rw [HHC.out]
      go_wp2_with fail
      refine (HK.out.has l x A c w10 (by have := HLA.out; have := HLC.out; have := HLN.out; omega) HX.out ((HL.out.below B2.out).below K0_8.out)).mono ?_
      rintro e w11 ⟨rfl, hb⟩
      have K0_9 := Lib.hid (below_chain K0_8.out hb)
      have Ka_9 := Lib.hid (below_chain Ka_8.out hb)
      have Kc_9 := Lib.hid (below_chain Kc_8.out hb)
      have Kd_9 := Lib.hid (below_chain Kd_8.out hb)
      clear hb
      rw [HHL.out]
      go_wp2_with fail
      have k0 : w11.cell? ⟨g1, 0, none⟩ = some (.int .u32 (s1 : Int)) := (C2.out.below K0_9.out C2.out.lt).cell 0 rfl
      have k1 : w11.cell? ⟨g1, 1, none⟩ = some (.int .u32 (s2 : Int)) := (C2.out.below K0_9.out C2.out.lt).cell 1 rfl
      have HSL := Lib.hid (sets_len HLE.out HA.out HC.out)
      have HLC4 := Lib.hid (show lenP rc ≤ 4294967296 by unfold lenP; rw [HC.out.1]; exact lenS_32 HC.out.1 fun t ht => (HRC.out.1.lt32 t ht).2)
      refine wp_region_V [] (Below w11.heap.size w11) hmix ((Below.refl _ _).drew) ?_
      change wpAnyV _ _ _ _ _ _ _ _ _
      refine wpAnyV_take (i := 0) (v := .int .i64 0) 8 (kept_below w11) rfl (by kernel_rfl) (by kernel_rfl) (fun _ _ _ h => h) (fun _ h => h) (DoesV.reads (by rfl) fun w9 hS => by go_simp) ?_
      try simp only [List.getElem_toArray, List.getElem_cons_succ, List.getElem_cons_zero, Act.put, List.setIfInBounds_toArray, List.set_cons_succ, List.set_cons_zero]
      refine wpAnyV_take (i := 1) (v := .bool true) 8 (kept_below w11) rfl (by kernel_rfl) (by kernel_rfl) (fun _ _ _ h => h) (fun _ h => h) (DoesV.reads (by rfl) fun w9 hS => by go_simp) ?_
      try simp only [List.getElem_toArray, List.getElem_cons_succ, List.getElem_cons_zero, Act.put, List.setIfInBounds_toArray, List.set_cons_succ, List.set_cons_zero]
      refine wpAnyV_take (i := 2) (v := .bool true) 8 (kept_below w11) rfl (by kernel_rfl) (by kernel_rfl) (fun _ _ _ h => h) (fun _ h => h) (DoesV.reads (by rfl) fun w9 hS => by go_simp) ?_
      try simp only [List.getElem_toArray, List.getElem_cons_succ, List.getElem_cons_zero, Act.put, List.setIfInBounds_toArray, List.set_cons_succ, List.set_cons_zero]
      refine wpAnyV_take (i := 3) (v := .slice Ac rc.length cc) 8 (kept_below w11) rfl (by kernel_rfl) (by kernel_rfl) (fun _ _ _ h => h) (fun _ h => h) (DoesV.reads (by rfl) fun w9 hS => by go_simp) ?_
      try simp only [List.getElem_toArray, List.getElem_cons_succ, List.getElem_cons_zero, Act.put, List.setIfInBounds_toArray, List.set_cons_succ, List.set_cons_zero]
      refine wpAnyV_take (i := 4) (v := .slice Ad rc.length cd) 8 (kept_below w11) rfl (by kernel_rfl) (by kernel_rfl) (fun _ _ _ h => h) (fun _ h => h) (DoesV.reads (by rfl) fun w9 hS => by go_simp) ?_
      try simp only [List.getElem_toArray, List.getElem_cons_succ, List.getElem_cons_zero, Act.put, List.setIfInBounds_toArray, List.set_cons_succ, List.set_cons_zero]
      refine wpAnyV_take (i := 5) (v := .bool true) 8 (kept_below w11) rfl (by kernel_rfl) (by kernel_rfl) (fun _ _ _ h => h) (fun _ h => h) (DoesV.calls 12 #[.slice Ac rc.length cc, .slice Ad rc.length cd] (by rfl) (fun w9 hS => by go_simp) (fun w9 hS => (Spans_any rc rc Ac Ad cc cd _ _ w9 (by have := HLC.out; have := HLN.out; omega) (by have := HLC.out; have := HLN.out; omega) ((HRC.out.below Kc_9.out).below hS).1 ((HRD.out.below Kd_9.out).below hS).1).mono fun e u h => ⟨by rw [h.1, decide_eq_true (rfl : rc = rc)], h.2⟩)) ?_
      try simp only [List.getElem_toArray, List.getElem_cons_succ, List.getElem_cons_zero, Act.put, List.setIfInBounds_toArray, List.set_cons_succ, List.set_cons_zero]
      refine wpAnyV_take (i := 6) (v := .bool true) 8 (kept_below w11) rfl (by kernel_rfl) (by kernel_rfl) (fun _ _ _ h => h) (fun _ h => h) (DoesV.reads (by rfl) fun w9 hS => by go_simp) ?_
      try simp only [List.getElem_toArray, List.getElem_cons_succ, List.getElem_cons_zero, Act.put, List.setIfInBounds_toArray, List.set_cons_succ, List.set_cons_zero]
      refine wpAnyV_take (i := 7) (v := .bool true) 8 (kept_below w11) rfl (by kernel_rfl) (by kernel_rfl) (fun _ _ _ h => h) (fun _ h => h) (DoesV.reads (by rfl) fun w9 hS => by go_simp) ?_
      try simp only [List.getElem_toArray, List.getElem_cons_succ, List.getElem_cons_zero, Act.put, List.setIfInBounds_toArray, List.set_cons_succ, List.set_cons_zero]
      refine wpAnyV_take (i := 8) (v := .slice Aa ra.length ca) 8 (kept_below w11) rfl (by kernel_rfl) (by kernel_rfl) (fun _ _ _ h => h) (fun _ h => h) (DoesV.reads (by rfl) fun w9 hS => by go_simp) ?_
      try simp only [List.getElem_toArray, List.getElem_cons_succ, List.getElem_cons_zero, Act.put, List.setIfInBounds_toArray, List.set_cons_succ, List.set_cons_zero]
      refine wpAnyV_take (i := 9) (v := .agg (spC (s1, s2)).toArray) 8 (kept_below w11) rfl (by kernel_rfl) (by kernel_rfl) (fun _ _ _ h => h) (fun _ h => h) (DoesV.loadSp (by rfl) _ rfl g1 rfl (s1, s2) (fun w9 hS => (C2.out.below K0_9.out C2.out.lt).below hS (C2.out.below K0_9.out C2.out.lt).lt)) ?_
      try simp only [List.getElem_toArray, List.getElem_cons_succ, List.getElem_cons_zero, Act.put, List.setIfInBounds_toArray, List.set_cons_succ, List.set_cons_zero]
      refine wpAnyV_take (i := 10) (v := .bool true) 8 (kept_below w11) rfl (by kernel_rfl) (by kernel_rfl) (fun _ _ _ h => h) (fun _ h => h) (DoesV.calls 17 #[.slice Aa ra.length ca, .agg (spC (s1, s2)).toArray] (by rfl) (fun w9 hS => by go_simp) (fun w9 hS => (HK.out.holds ra (s1, s2) Aa ca w9 (by have := HLA.out; have := HLN.out; omega) HS.out ((HRA.out.below Ka_9.out).below hS)).mono fun e u h => ⟨by rw [h.1, HA.out.holds HLE.out], h.2⟩)) ?_
      try simp only [List.getElem_toArray, List.getElem_cons_succ, List.getElem_cons_zero, Act.put, List.setIfInBounds_toArray, List.set_cons_succ, List.set_cons_zero]
      refine wpAnyV_take (i := 11) (v := .bool true) 8 (kept_below w11) rfl (by kernel_rfl) (by kernel_rfl) (fun _ _ _ h => h) (fun _ h => h) (DoesV.reads (by rfl) fun w9 hS => by go_simp) ?_
      try simp only [List.getElem_toArray, List.getElem_cons_succ, List.getElem_cons_zero, Act.put, List.setIfInBounds_toArray, List.set_cons_succ, List.set_cons_zero]
      refine wpAnyV_take (i := 12) (v := .bool true) 8 (kept_below w11) rfl (by kernel_rfl) (by kernel_rfl) (fun _ _ _ h => h) (fun _ h => h) (DoesV.reads (by rfl) fun w9 hS => by go_simp) ?_
      try simp only [List.getElem_toArray, List.getElem_cons_succ, List.getElem_cons_zero, Act.put, List.setIfInBounds_toArray, List.set_cons_succ, List.set_cons_zero]
      refine wpAnyV_take (i := 13) (v := .slice Aa ra.length ca) 8 (kept_below w11) rfl (by kernel_rfl) (by kernel_rfl) (fun _ _ _ h => h) (fun _ h => h) (DoesV.reads (by rfl) fun w9 hS => by go_simp) ?_
      try simp only [List.getElem_toArray, List.getElem_cons_succ, List.getElem_cons_zero, Act.put, List.setIfInBounds_toArray, List.set_cons_succ, List.set_cons_zero]
      refine wpAnyV_take (i := 14) (v := .int .u64 (lenP ra : Int)) 8 (kept_below w11) rfl (by kernel_rfl) (by kernel_rfl) (fun _ _ _ h => h) (fun _ h => h) (DoesV.calls 19 #[.slice Aa ra.length ca] (by rfl) (fun w9 hS => by go_simp) (fun w9 hS => HK.out.len ra Aa ca w9 (by have := HLA.out; have := HLN.out; omega) ((HRA.out.below Ka_9.out).below hS))) ?_
      try simp only [List.getElem_toArray, List.getElem_cons_succ, List.getElem_cons_zero, Act.put, List.setIfInBounds_toArray, List.set_cons_succ, List.set_cons_zero]
      refine wpAnyV_take (i := 15) (v := .slice Ac rc.length cc) 8 (kept_below w11) rfl (by kernel_rfl) (by kernel_rfl) (fun _ _ _ h => h) (fun _ h => h) (DoesV.reads (by rfl) fun w9 hS => by go_simp) ?_
      try simp only [List.getElem_toArray, List.getElem_cons_succ, List.getElem_cons_zero, Act.put, List.setIfInBounds_toArray, List.set_cons_succ, List.set_cons_zero]
      refine wpAnyV_take (i := 16) (v := .int .u64 (lenP rc : Int)) 8 (kept_below w11) rfl (by kernel_rfl) (by kernel_rfl) (fun _ _ _ h => h) (fun _ h => h) (DoesV.calls 19 #[.slice Ac rc.length cc] (by rfl) (fun w9 hS => by go_simp) (fun w9 hS => HK.out.len rc Ac cc w9 (by have := HLC.out; have := HLN.out; omega) ((HRC.out.below Kc_9.out).below hS))) ?_
      try simp only [List.getElem_toArray, List.getElem_cons_succ, List.getElem_cons_zero, Act.put, List.setIfInBounds_toArray, List.set_cons_succ, List.set_cons_zero]
      refine wpAnyV_take (i := 17) (v := .pointer (some ⟨g1, 1, none⟩)) 8 (kept_below w11) rfl (by kernel_rfl) (by kernel_rfl) (fun _ _ _ h => h) (fun _ h => h) (DoesV.reads (by rfl) fun w9 hS => by go_simp) ?_
      try simp only [List.getElem_toArray, List.getElem_cons_succ, List.getElem_cons_zero, Act.put, List.setIfInBounds_toArray, List.set_cons_succ, List.set_cons_zero]
      refine wpAnyV_take (i := 18) (v := .int .u32 (s2 : Int)) 8 (kept_below w11) rfl (by kernel_rfl) (by kernel_rfl) (fun _ _ _ h => h) (fun _ h => h) (DoesV.reads (by rfl) fun w9 hS => by have q0 := cell_bS hS k1; go_simp) ?_
      try simp only [List.getElem_toArray, List.getElem_cons_succ, List.getElem_cons_zero, Act.put, List.setIfInBounds_toArray, List.set_cons_succ, List.set_cons_zero]
      refine wpAnyV_take (i := 19) (v := .pointer (some ⟨g1, 0, none⟩)) 8 (kept_below w11) rfl (by kernel_rfl) (by kernel_rfl) (fun _ _ _ h => h) (fun _ h => h) (DoesV.reads (by rfl) fun w9 hS => by go_simp) ?_
      try simp only [List.getElem_toArray, List.getElem_cons_succ, List.getElem_cons_zero, Act.put, List.setIfInBounds_toArray, List.set_cons_succ, List.set_cons_zero]
      refine wpAnyV_take (i := 20) (v := .int .u32 (s1 : Int)) 8 (kept_below w11) rfl (by kernel_rfl) (by kernel_rfl) (fun _ _ _ h => h) (fun _ h => h) (DoesV.reads (by rfl) fun w9 hS => by have q0 := cell_bS hS k0; go_simp) ?_
      try simp only [List.getElem_toArray, List.getElem_cons_succ, List.getElem_cons_zero, Act.put, List.setIfInBounds_toArray, List.set_cons_succ, List.set_cons_zero]
      refine wpAnyV_take (i := 21) (v := .int .u32 ((s2 - s1 : Nat) : Int)) 8 (kept_below w11) rfl (by kernel_rfl) (by kernel_rfl) (fun _ _ _ h => h) (fun _ h => h) (DoesV.reads (by rfl) fun w9 hS => by have z1 : s1 ≤ s2 := HLE.out; have z2 : s2 < 4294967296 := HS.out.2; rw [Int.ofNat_sub z1]; go_simp; try simp (disch := omega) only [IntWalk.i64_in, IntWalk.u32_in, IntWalk.u64_in]) ?_
      try simp only [List.getElem_toArray, List.getElem_cons_succ, List.getElem_cons_zero, Act.put, List.setIfInBounds_toArray, List.set_cons_succ, List.set_cons_zero]
      refine wpAnyV_take (i := 22) (v := .int .u64 ((s2 - s1 : Nat) : Int)) 8 (kept_below w11) rfl (by kernel_rfl) (by kernel_rfl) (fun _ _ _ h => h) (fun _ h => h) (DoesV.reads (by rfl) fun w9 hS => by have z2 : s2 - s1 < 4294967296 := (by have z2 : s2 < 4294967296 := HS.out.2; omega); go_simp; try simp (disch := omega) only [IntWalk.i64_in, IntWalk.u32_in, IntWalk.u64_in]) ?_
      try simp only [List.getElem_toArray, List.getElem_cons_succ, List.getElem_cons_zero, Act.put, List.setIfInBounds_toArray, List.set_cons_succ, List.set_cons_zero]
      refine wpAnyV_take (i := 23) (v := .int .u64 (lenP ra : Int)) 8 (kept_below w11) rfl (by kernel_rfl) (by kernel_rfl) (fun _ _ _ h => h) (fun _ h => h) (DoesV.reads (by rfl) fun w9 hS => by rw [HSL.out]; have z2 : s2 - s1 < 4294967296 := (by have z2 : s2 < 4294967296 := HS.out.2; omega); have z4 := HLC4.out; go_simp; try simp (disch := omega) only [IntWalk.i64_in, IntWalk.u32_in, IntWalk.u64_in]) ?_
      try simp only [List.getElem_toArray, List.getElem_cons_succ, List.getElem_cons_zero, Act.put, List.setIfInBounds_toArray, List.set_cons_succ, List.set_cons_zero]
      refine wpAnyV_take (i := 24) (v := .bool true) 8 (kept_below w11) rfl (by kernel_rfl) (by kernel_rfl) (fun _ _ _ h => h) (fun _ h => h) (DoesV.reads (by rfl) fun w9 hS => by go_simp) ?_
      try simp only [List.getElem_toArray, List.getElem_cons_succ, List.getElem_cons_zero, Act.put, List.setIfInBounds_toArray, List.set_cons_succ, List.set_cons_zero]
      refine wpAnyV_take (i := 25) (v := .bool true) 8 (kept_below w11) rfl (by kernel_rfl) (by kernel_rfl) (fun _ _ _ h => h) (fun _ h => h) (DoesV.reads (by rfl) fun w9 hS => by go_simp) ?_
      try simp only [List.getElem_toArray, List.getElem_cons_succ, List.getElem_cons_zero, Act.put, List.setIfInBounds_toArray, List.set_cons_succ, List.set_cons_zero]
      refine wpAnyV_take (i := 26) (v := .bool true) 8 (kept_below w11) rfl (by kernel_rfl) (by kernel_rfl) (fun _ _ _ h => h) (fun _ h => h) (DoesV.reads (by rfl) fun w9 hS => by go_simp) ?_
      try simp only [List.getElem_toArray, List.getElem_cons_succ, List.getElem_cons_zero, Act.put, List.setIfInBounds_toArray, List.set_cons_succ, List.set_cons_zero]
      refine wpAnyV_take (i := 27) (v := .bool true) 8 (kept_below w11) rfl (by kernel_rfl) (by kernel_rfl) (fun _ _ _ h => h) (fun _ h => h) (DoesV.calls 7 #[] (by rfl) (fun w9 hS => by go_simp) (fun w9 hS => lives12_v HK.out w9)) ?_
      try simp only [List.getElem_toArray, List.getElem_cons_succ, List.getElem_cons_zero, Act.put, List.setIfInBounds_toArray, List.set_cons_succ, List.set_cons_zero]
      refine wpAnyV_take (i := 28) (v := .bool true) 8 (kept_below w11) rfl (by kernel_rfl) (by kernel_rfl) (fun _ _ _ h => h) (fun _ h => h) (DoesV.reads (by rfl) fun w9 hS => by go_simp) ?_
      try simp only [List.getElem_toArray, List.getElem_cons_succ, List.getElem_cons_zero, Act.put, List.setIfInBounds_toArray, List.set_cons_succ, List.set_cons_zero]
      refine wpAnyV_take (i := 29) (v := .bool true) 8 (kept_below w11) rfl (by kernel_rfl) (by kernel_rfl) (fun _ _ _ h => h) (fun _ h => h) (DoesV.reads (by rfl) fun w9 hS => by go_simp) ?_
      try simp only [List.getElem_toArray, List.getElem_cons_succ, List.getElem_cons_zero, Act.put, List.setIfInBounds_toArray, List.set_cons_succ, List.set_cons_zero]
      refine wpAnyV_done (by kernel_rfl) (fun y hu => ?_) _
      have K0_10 := Lib.hid (below_chain K0_9.out hu)
      have Ka_10 := Lib.hid (below_chain Ka_9.out hu)
      have Kc_10 := Lib.hid (below_chain Kc_9.out hu)
      have Kd_10 := Lib.hid (below_chain Kd_9.out hu)
      clear hu k0 k1
      go_wp2_with fail
      go_ret
      exact ⟨rfl, below_chain B2.out K0_10.out⟩

end Go.Proofs.Ythjcnijageiaiaa
