/- SpanTells: the walk. -/
import Derived.Test.YthjcnijageiaiaaSpaN
namespace Go.Proofs.Ythjcnijageiaiaa
open Go.RowKit Go.Shelf
set_option linter.unusedVariables false
set_option maxRecDepth 100000
set_option linter.unusedSimpArgs false

set_option maxHeartbeats 16000000 in
theorem tells12_walk (K : K12) (l : List Sp) (s : Sp) (x : Nat) (A : Option Addr) (c : Nat) (w : World) (hl : LsF w A c l) (hs : s.1 < 4294967296 ∧ s.2 < 4294967296) (hx : x < 4294967296) :
    Calls Try.prog 3 #[.slice A l.length c, .agg (spC s).toArray, .int .u32 (x : Int)] w fun e w' => e = .returned (.bool true) ∧ Below w.heap.size w w' := by
  have HK := Lib.hid K
  have HL := Lib.hid hl
  have HS := Lib.hid hs
  have HX := Lib.hid hx
  have hlm : (l.length : Int) ≤ 9223372036854775807 := by have h1 := hl.2.1; have h2 := hl.2.2.1; simp only [maxLen] at h2; omega
  have hmix : Try.prog.follows .mixedOrders = true := by kernel_rfl
  clear K hl hs hx
  by_cases h60 : 60 < l.length
  · have e0 : (60 : Int) < l.length := by omega
    clear h60
    go_enter Try.func3, Try.ntmps3
    go_wp2_with (first
      | ((with_reducible show wpList _ _ _ _ _ w); refine wpList_boxS rfl 25 _ rfl (spC s) rfl ?_; intro g1 w1 hk1 hb1 hg1; go_frame; have C1 := Lib.hid hk1; have B1 := Lib.hid hb1; clear hk1 hb1 hg1)
      | fail)
    refine (lives12_v HK.out w1).mono ?_
    rintro e wz ⟨rfl, hb⟩
    have BZ := Lib.hid (below_chain B1.out hb)
    clear hb
    go_wp2_with fail
    go_ret
    exact ⟨rfl, BZ.out⟩
  have e0 : (l.length : Int) ≤ 60 := by omega
  have HLN := Lib.hid (show l.length ≤ 60 by omega)
  clear h60
  go_enter Try.func3, Try.ntmps3
  go_wp2_with (first
    | ((with_reducible show wpList _ _ _ _ _ w); refine wpList_boxS rfl 25 _ rfl (spC s) rfl ?_; intro g1 w1 hk1 hb1 hg1; go_frame; have C1 := Lib.hid hk1; have B1 := Lib.hid hb1; clear hk1 hb1 hg1)
    | (at_builtin; go_loud (refine wpList_append_y (E := spE) rfl (.tmp 22) (.tmp 23) rfl w1.heap.size (fun _ => True) _ [] rfl (own_nothing w1 _ (Nat.le_refl _)) A l.length c rfl l rfl (((HL.out.below B1.out).1.below ((Below.refl w1.heap.size w1).alloc (Nat.le_refl _) (.cells #[] 25))).mono fun k hk hlt => ⟨trivial, fun e => by cases e; exact absurd hlt (Nat.lt_irrefl _)⟩) HL.out.2.2.2 (by have := HLN.out; simp; omega) (by rw [World.size_alloc]; omega) trivial ?_); intro v3 w3 ho hg; rw [List.nil_append] at ho; have hb3 : Below w1.heap.size w1 w3 := ((Below.refl w1.heap.size w1).alloc (Nat.le_refl _) (.cells #[] 25)).grown hg (by rw [World.size_alloc]; omega) (fun k e => by cases e; exact Nat.le_refl _); have hx3 : AppX spE w1 v3 l w3 := ⟨own_flat ho, hb3⟩; obtain ⟨Ao, co, e3, hlo⟩ := hx3.ls; subst e3; go_frame; have HLO := Lib.hid hlo; have B3 := Lib.hid hb3; clear ho hg hb3 hx3 hlo)
    | ((with_reducible show wpList _ _ _ _ _ w3); refine wpList_loadS rfl 25 _ rfl g1 rfl (spC s) (C1.out.below B3.out C1.out.lt) _ Try.underlying25 rfl infoSpan ?_; go_frame)
    | fail)
  have HL1 := Lib.hid (HL.out.below B1.out)
  have K1_1 := Lib.hid (B3.out)
  refine (HK.out.add l s Ao co w3 (by have := HLN.out; omega) HS.out HLO.out).mono ?_
  intro e w4 hd
  obtain ⟨ra, ea, Aa, ca, rfl, ha, hla, hlr, hxa⟩ := hd.ans
  have hb := hxa.2
  have HAa := Lib.hid ha
  have HBa := Lib.hid hla
  have HXa := Lib.hid hxa.1
  have W34 := Lib.hid hxa.2.size
  have hna : (ra.length : Int) ≤ 122 := by have := HLN.out; omega
  have HRa := Lib.hid hlr
  have K1_2 := Lib.hid (below_chain K1_1.out hb)
  have Ko_2 := Lib.hid (hb)
  clear hd ha hla hlr hxa hb
  go_wp2_with (first
    | ((with_reducible show wpList _ _ _ _ _ w4); refine wpList_loadS rfl 25 _ rfl g1 rfl (spC s) (C1.out.below K1_2.out C1.out.lt) _ Try.underlying25 rfl infoSpan ?_; go_frame)
    | fail)
  refine (AddR_v l s A c _ w4 (by have := HLN.out; omega) HS.out (HL1.out.below K1_2.out).1 (fun k hk => hk) (HL1.out.below K1_2.out).2.2.2).mono ?_
  intro e w5 hd
  obtain ⟨rb, eb, Ab, cb, rfl, ha, hla, hlr, hxa⟩ := hd.ans
  have W45 := Lib.hid hxa.2.size
  have hb := hxa.2
  obtain ⟨e1, e2⟩ := HAa.out.one AddOf.one ha
  have e3 := e1.symm
  have e4 := e2.symm
  clear e1 e2
  subst e3 e4
  have HRb := Lib.hid hlr
  have K1_3 := Lib.hid (below_chain K1_2.out hb)
  have Ko_3 := Lib.hid (below_chain Ko_2.out hb)
  have Ka_3 := Lib.hid (hb)
  clear hd ha hla hlr hxa hb
  go_wp2_with (first
    | ((with_reducible show wpList _ _ _ _ _ w5); refine wpList_loadS rfl 25 _ rfl g1 rfl (spC s) (C1.out.below K1_3.out C1.out.lt) _ Try.underlying25 rfl infoSpan ?_; go_frame)
    | fail)
  refine (HK.out.cut l s Ao co w5 (by have := HLN.out; omega) HS.out (HLO.out.below Ko_3.out)).mono ?_
  intro e w6 hd
  obtain ⟨rc, ec, Ac, cc, rfl, ha, hla, hlr, hxa⟩ := hd.ans
  have hb := hxa.2
  have HAc := Lib.hid ha
  have HBc := Lib.hid hla
  have HXc := Lib.hid hxa.1
  have hnc : (rc.length : Int) ≤ 122 := by have := HLN.out; omega
  have HRc := Lib.hid hlr
  have K1_4 := Lib.hid (below_chain K1_3.out hb)
  have Ko_4 := Lib.hid (below_chain Ko_3.out hb)
  have Ka_4 := Lib.hid (below_chain Ka_3.out hb)
  have Kb_4 := Lib.hid (hb)
  clear hd ha hla hlr hxa hb
  go_wp2_with (first
    | ((with_reducible show wpList _ _ _ _ _ w6); refine wpList_loadS rfl 25 _ rfl g1 rfl (spC s) (C1.out.below K1_4.out C1.out.lt) _ Try.underlying25 rfl infoSpan ?_; go_frame)
    | fail)
  refine (CutR_v l s A c _ w6 (by have := HLN.out; omega) HS.out (HL1.out.below K1_4.out).1 (fun k hk => hk) (HL1.out.below K1_4.out).2.2.2).mono ?_
  intro e w7 hd
  obtain ⟨rd, ed, Ad, cd, rfl, ha, hla, hlr, hxa⟩ := hd.ans
  have hb := hxa.2
  obtain ⟨e1, e2⟩ := HAc.out.one CutOf.one ha
  have e3 := e1.symm
  have e4 := e2.symm
  clear e1 e2
  subst e3 e4
  have HRd := Lib.hid hlr
  have K1_5 := Lib.hid (below_chain K1_4.out hb)
  have Ko_5 := Lib.hid (below_chain Ko_4.out hb)
  have Ka_5 := Lib.hid (below_chain Ka_4.out hb)
  have Kb_5 := Lib.hid (below_chain Kb_4.out hb)
  have Kc_5 := Lib.hid (hb)
  clear hd ha hla hlr hxa hb
  go_wp2_with fail
  refine wp_region_V [] (Below w7.heap.size w7) hmix ((Below.refl _ _).drew) ?_
  change wpAnyV _ _ _ _ _ _ _ _ _
  refine wpAnyV_take (i := 0) (v := .slice Aa ra.length ca) 8 (kept_below w7) rfl (by kernel_rfl) (by kernel_rfl) (fun _ _ _ h => h) (fun _ h => h) (DoesV.reads (by rfl) fun w9 hS => by go_simp) ?_
  try simp only [List.getElem_toArray, List.getElem_cons_succ, List.getElem_cons_zero, Act.put, List.setIfInBounds_toArray, List.set_cons_succ, List.set_cons_zero]
  refine wpAnyV_take (i := 1) (v := .slice Ab ra.length cb) 8 (kept_below w7) rfl (by kernel_rfl) (by kernel_rfl) (fun _ _ _ h => h) (fun _ h => h) (DoesV.reads (by rfl) fun w9 hS => by go_simp) ?_
  try simp only [List.getElem_toArray, List.getElem_cons_succ, List.getElem_cons_zero, Act.put, List.setIfInBounds_toArray, List.set_cons_succ, List.set_cons_zero]
  refine wpAnyV_take (i := 2) (v := .bool true) 8 (kept_below w7) rfl (by kernel_rfl) (by kernel_rfl) (fun _ _ _ h => h) (fun _ h => h) (DoesV.calls 12 #[.slice Aa ra.length ca, .slice Ab ra.length cb] (by rfl) (fun w9 hS => by go_simp) (fun w9 hS => (Spans_any ra ra Aa Ab ca cb _ _ w9 (by omega) (by omega) ((HRa.out.below Ka_5.out).below hS).1 ((HRb.out.below Kb_5.out).below hS).1).mono fun e u h => ⟨by rw [h.1, decide_eq_true (rfl : ra = ra)], h.2⟩)) ?_
  try simp only [List.getElem_toArray, List.getElem_cons_succ, List.getElem_cons_zero, Act.put, List.setIfInBounds_toArray, List.set_cons_succ, List.set_cons_zero]
  refine wpAnyV_take (i := 3) (v := .bool false) 8 (kept_below w7) rfl (by kernel_rfl) (by kernel_rfl) (fun _ _ _ h => h) (fun _ h => h) (DoesV.reads (by rfl) fun w9 hS => by go_simp) ?_
  try simp only [List.getElem_toArray, List.getElem_cons_succ, List.getElem_cons_zero, Act.put, List.setIfInBounds_toArray, List.set_cons_succ, List.set_cons_zero]
  refine wpAnyV_take (i := 4) (v := .bool false) 8 (kept_below w7) rfl (by kernel_rfl) (by kernel_rfl) (fun _ _ _ h => h) (fun _ h => h) (DoesV.reads (by rfl) fun w9 hS => by go_simp) ?_
  try simp only [List.getElem_toArray, List.getElem_cons_succ, List.getElem_cons_zero, Act.put, List.setIfInBounds_toArray, List.set_cons_succ, List.set_cons_zero]
  refine wpAnyV_take (i := 5) (v := .int .i64 ea) 8 (kept_below w7) rfl (by kernel_rfl) (by kernel_rfl) (fun _ _ _ h => h) (fun _ h => h) (DoesV.reads (by rfl) fun w9 hS => by go_simp) ?_
  try simp only [List.getElem_toArray, List.getElem_cons_succ, List.getElem_cons_zero, Act.put, List.setIfInBounds_toArray, List.set_cons_succ, List.set_cons_zero]
  refine wpAnyV_take (i := 6) (v := .int .i64 ea) 8 (kept_below w7) rfl (by kernel_rfl) (by kernel_rfl) (fun _ _ _ h => h) (fun _ h => h) (DoesV.reads (by rfl) fun w9 hS => by go_simp) ?_
  try simp only [List.getElem_toArray, List.getElem_cons_succ, List.getElem_cons_zero, Act.put, List.setIfInBounds_toArray, List.set_cons_succ, List.set_cons_zero]
  refine wpAnyV_take (i := 7) (v := .bool false) 8 (kept_below w7) rfl (by kernel_rfl) (by kernel_rfl) (fun _ _ _ h => h) (fun _ h => h) (DoesV.reads (by rfl) fun w9 hS => by go_simp) ?_
  try simp only [List.getElem_toArray, List.getElem_cons_succ, List.getElem_cons_zero, Act.put, List.setIfInBounds_toArray, List.set_cons_succ, List.set_cons_zero]
  refine wpAnyV_take (i := 8) (v := .bool false) 8 (kept_below w7) rfl (by kernel_rfl) (by kernel_rfl) (fun _ _ _ h => h) (fun _ h => h) (DoesV.reads (by rfl) fun w9 hS => by go_simp) ?_
  try simp only [List.getElem_toArray, List.getElem_cons_succ, List.getElem_cons_zero, Act.put, List.setIfInBounds_toArray, List.set_cons_succ, List.set_cons_zero]
  refine wpAnyV_take (i := 9) (v := .bool false) 8 (kept_below w7) rfl (by kernel_rfl) (by kernel_rfl) (fun _ _ _ h => h) (fun _ h => h) (DoesV.reads (by rfl) fun w9 hS => by go_simp) ?_
  try simp only [List.getElem_toArray, List.getElem_cons_succ, List.getElem_cons_zero, Act.put, List.setIfInBounds_toArray, List.set_cons_succ, List.set_cons_zero]
  refine wpAnyV_take (i := 10) (v := .slice Ac rc.length cc) 8 (kept_below w7) rfl (by kernel_rfl) (by kernel_rfl) (fun _ _ _ h => h) (fun _ h => h) (DoesV.reads (by rfl) fun w9 hS => by go_simp) ?_
  try simp only [List.getElem_toArray, List.getElem_cons_succ, List.getElem_cons_zero, Act.put, List.setIfInBounds_toArray, List.set_cons_succ, List.set_cons_zero]
  refine wpAnyV_take (i := 11) (v := .slice Ad rc.length cd) 8 (kept_below w7) rfl (by kernel_rfl) (by kernel_rfl) (fun _ _ _ h => h) (fun _ h => h) (DoesV.reads (by rfl) fun w9 hS => by go_simp) ?_
  try simp only [List.getElem_toArray, List.getElem_cons_succ, List.getElem_cons_zero, Act.put, List.setIfInBounds_toArray, List.set_cons_succ, List.set_cons_zero]
  refine wpAnyV_take (i := 12) (v := .bool true) 8 (kept_below w7) rfl (by kernel_rfl) (by kernel_rfl) (fun _ _ _ h => h) (fun _ h => h) (DoesV.calls 12 #[.slice Ac rc.length cc, .slice Ad rc.length cd] (by rfl) (fun w9 hS => by go_simp) (fun w9 hS => (Spans_any rc rc Ac Ad cc cd _ _ w9 (by omega) (by omega) ((HRc.out.below Kc_5.out).below hS).1 ((HRd.out.below (Below.refl _ _)).below hS).1).mono fun e u h => ⟨by rw [h.1, decide_eq_true (rfl : rc = rc)], h.2⟩)) ?_
  try simp only [List.getElem_toArray, List.getElem_cons_succ, List.getElem_cons_zero, Act.put, List.setIfInBounds_toArray, List.set_cons_succ, List.set_cons_zero]
  refine wpAnyV_take (i := 13) (v := .bool false) 8 (kept_below w7) rfl (by kernel_rfl) (by kernel_rfl) (fun _ _ _ h => h) (fun _ h => h) (DoesV.reads (by rfl) fun w9 hS => by go_simp) ?_
  try simp only [List.getElem_toArray, List.getElem_cons_succ, List.getElem_cons_zero, Act.put, List.setIfInBounds_toArray, List.set_cons_succ, List.set_cons_zero]
  refine wpAnyV_take (i := 14) (v := .bool false) 8 (kept_below w7) rfl (by kernel_rfl) (by kernel_rfl) (fun _ _ _ h => h) (fun _ h => h) (DoesV.reads (by rfl) fun w9 hS => by go_simp) ?_
  try simp only [List.getElem_toArray, List.getElem_cons_succ, List.getElem_cons_zero, Act.put, List.setIfInBounds_toArray, List.set_cons_succ, List.set_cons_zero]
  refine wpAnyV_take (i := 15) (v := .bool false) 8 (kept_below w7) rfl (by kernel_rfl) (by kernel_rfl) (fun _ _ _ h => h) (fun _ h => h) (DoesV.reads (by rfl) fun w9 hS => by go_simp) ?_
  try simp only [List.getElem_toArray, List.getElem_cons_succ, List.getElem_cons_zero, Act.put, List.setIfInBounds_toArray, List.set_cons_succ, List.set_cons_zero]
  refine wpAnyV_take (i := 16) (v := .int .i64 ec) 8 (kept_below w7) rfl (by kernel_rfl) (by kernel_rfl) (fun _ _ _ h => h) (fun _ h => h) (DoesV.reads (by rfl) fun w9 hS => by go_simp) ?_
  try simp only [List.getElem_toArray, List.getElem_cons_succ, List.getElem_cons_zero, Act.put, List.setIfInBounds_toArray, List.set_cons_succ, List.set_cons_zero]
  refine wpAnyV_take (i := 17) (v := .int .i64 ec) 8 (kept_below w7) rfl (by kernel_rfl) (by kernel_rfl) (fun _ _ _ h => h) (fun _ h => h) (DoesV.reads (by rfl) fun w9 hS => by go_simp) ?_
  try simp only [List.getElem_toArray, List.getElem_cons_succ, List.getElem_cons_zero, Act.put, List.setIfInBounds_toArray, List.set_cons_succ, List.set_cons_zero]
  refine wpAnyV_take (i := 18) (v := .bool false) 8 (kept_below w7) rfl (by kernel_rfl) (by kernel_rfl) (fun _ _ _ h => h) (fun _ h => h) (DoesV.reads (by rfl) fun w9 hS => by go_simp) ?_
  try simp only [List.getElem_toArray, List.getElem_cons_succ, List.getElem_cons_zero, Act.put, List.setIfInBounds_toArray, List.set_cons_succ, List.set_cons_zero]
  refine wpAnyV_take (i := 19) (v := .bool false) 8 (kept_below w7) rfl (by kernel_rfl) (by kernel_rfl) (fun _ _ _ h => h) (fun _ h => h) (DoesV.reads (by rfl) fun w9 hS => by go_simp) ?_
  try simp only [List.getElem_toArray, List.getElem_cons_succ, List.getElem_cons_zero, Act.put, List.setIfInBounds_toArray, List.set_cons_succ, List.set_cons_zero]
  refine wpAnyV_take (i := 20) (v := .bool false) 8 (kept_below w7) rfl (by kernel_rfl) (by kernel_rfl) (fun _ _ _ h => h) (fun _ h => h) (DoesV.reads (by rfl) fun w9 hS => by go_simp) ?_
  try simp only [List.getElem_toArray, List.getElem_cons_succ, List.getElem_cons_zero, Act.put, List.setIfInBounds_toArray, List.set_cons_succ, List.set_cons_zero]
  refine wpAnyV_take (i := 21) (v := .slice Ao l.length co) 8 (kept_below w7) rfl (by kernel_rfl) (by kernel_rfl) (fun _ _ _ h => h) (fun _ h => h) (DoesV.reads (by rfl) fun w9 hS => by go_simp) ?_
  try simp only [List.getElem_toArray, List.getElem_cons_succ, List.getElem_cons_zero, Act.put, List.setIfInBounds_toArray, List.set_cons_succ, List.set_cons_zero]
  refine wpAnyV_take (i := 22) (v := .bool (mayS l)) 8 (kept_below w7) rfl (by kernel_rfl) (by kernel_rfl) (fun _ _ _ h => h) (fun _ h => h) (DoesV.calls 13 #[.slice Ao l.length co] (by rfl) (fun w9 hS => by go_simp) (fun w9 hS => HK.out.may l Ao co w9 (by have := HLN.out; omega) ((HLO.out.below Ko_5.out).below hS))) ?_
  try simp only [List.getElem_toArray, List.getElem_cons_succ, List.getElem_cons_zero, Act.put, List.setIfInBounds_toArray, List.set_cons_succ, List.set_cons_zero]
  refine wpAnyV_take (i := 23) (v := .slice A l.length c) 8 (kept_below w7) rfl (by kernel_rfl) (by kernel_rfl) (fun _ _ _ h => h) (fun _ h => h) (DoesV.reads (by rfl) fun w9 hS => by go_simp) ?_
  try simp only [List.getElem_toArray, List.getElem_cons_succ, List.getElem_cons_zero, Act.put, List.setIfInBounds_toArray, List.set_cons_succ, List.set_cons_zero]
  refine wpAnyV_take (i := 24) (v := .bool (mayS l)) 8 (kept_below w7) rfl (by kernel_rfl) (by kernel_rfl) (fun _ _ _ h => h) (fun _ h => h) (DoesV.calls 14 #[.slice A l.length c] (by rfl) (fun w9 hS => by go_simp) (fun w9 hS => MayR_v l A c _ w9 (by have := HLN.out; omega) ((HL1.out.below K1_5.out).below hS).1)) ?_
  try simp only [List.getElem_toArray, List.getElem_cons_succ, List.getElem_cons_zero, Act.put, List.setIfInBounds_toArray, List.set_cons_succ, List.set_cons_zero]
  refine wpAnyV_take (i := 25) (v := .bool false) 8 (kept_below w7) rfl (by kernel_rfl) (by kernel_rfl) (fun _ _ _ h => h) (fun _ h => h) (DoesV.reads (by rfl) fun w9 hS => by go_simp) ?_
  try simp only [List.getElem_toArray, List.getElem_cons_succ, List.getElem_cons_zero, Act.put, List.setIfInBounds_toArray, List.set_cons_succ, List.set_cons_zero]
  refine wpAnyV_take (i := 26) (v := .bool false) 8 (kept_below w7) rfl (by kernel_rfl) (by kernel_rfl) (fun _ _ _ h => h) (fun _ h => h) (DoesV.reads (by rfl) fun w9 hS => by go_simp) ?_
  try simp only [List.getElem_toArray, List.getElem_cons_succ, List.getElem_cons_zero, Act.put, List.setIfInBounds_toArray, List.set_cons_succ, List.set_cons_zero]
  refine wpAnyV_take (i := 27) (v := .bool false) 8 (kept_below w7) rfl (by kernel_rfl) (by kernel_rfl) (fun _ _ _ h => h) (fun _ h => h) (DoesV.reads (by rfl) fun w9 hS => by go_simp) ?_
  try simp only [List.getElem_toArray, List.getElem_cons_succ, List.getElem_cons_zero, Act.put, List.setIfInBounds_toArray, List.set_cons_succ, List.set_cons_zero]
  refine wpAnyV_take (i := 28) (v := .slice Ao l.length co) 8 (kept_below w7) rfl (by kernel_rfl) (by kernel_rfl) (fun _ _ _ h => h) (fun _ h => h) (DoesV.reads (by rfl) fun w9 hS => by go_simp) ?_
  try simp only [List.getElem_toArray, List.getElem_cons_succ, List.getElem_cons_zero, Act.put, List.setIfInBounds_toArray, List.set_cons_succ, List.set_cons_zero]
  refine wpAnyV_take (i := 29) (v := .int .u32 (x : Int)) 8 (kept_below w7) rfl (by kernel_rfl) (by kernel_rfl) (fun _ _ _ h => h) (fun _ h => h) (DoesV.reads (by rfl) fun w9 hS => by go_simp) ?_
  try simp only [List.getElem_toArray, List.getElem_cons_succ, List.getElem_cons_zero, Act.put, List.setIfInBounds_toArray, List.set_cons_succ, List.set_cons_zero]
  refine wpAnyV_take (i := 30) (v := .bool (hasP l x)) 8 (kept_below w7) rfl (by kernel_rfl) (by kernel_rfl) (fun _ _ _ h => h) (fun _ h => h) (DoesV.calls 15 #[.slice Ao l.length co, .int .u32 (x : Int)] (by rfl) (fun w9 hS => by go_simp) (fun w9 hS => HK.out.has l x Ao co w9 (by have := HLN.out; omega) HX.out ((HLO.out.below Ko_5.out).below hS))) ?_
  try simp only [List.getElem_toArray, List.getElem_cons_succ, List.getElem_cons_zero, Act.put, List.setIfInBounds_toArray, List.set_cons_succ, List.set_cons_zero]
  refine wpAnyV_take (i := 31) (v := .slice A l.length c) 8 (kept_below w7) rfl (by kernel_rfl) (by kernel_rfl) (fun _ _ _ h => h) (fun _ h => h) (DoesV.reads (by rfl) fun w9 hS => by go_simp) ?_
  try simp only [List.getElem_toArray, List.getElem_cons_succ, List.getElem_cons_zero, Act.put, List.setIfInBounds_toArray, List.set_cons_succ, List.set_cons_zero]
  refine wpAnyV_take (i := 32) (v := .int .u32 (x : Int)) 8 (kept_below w7) rfl (by kernel_rfl) (by kernel_rfl) (fun _ _ _ h => h) (fun _ h => h) (DoesV.reads (by rfl) fun w9 hS => by go_simp) ?_
  try simp only [List.getElem_toArray, List.getElem_cons_succ, List.getElem_cons_zero, Act.put, List.setIfInBounds_toArray, List.set_cons_succ, List.set_cons_zero]
  refine wpAnyV_take (i := 33) (v := .bool (hasP l x)) 8 (kept_below w7) rfl (by kernel_rfl) (by kernel_rfl) (fun _ _ _ h => h) (fun _ h => h) (DoesV.calls 16 #[.slice A l.length c, .int .u32 (x : Int)] (by rfl) (fun w9 hS => by go_simp) (fun w9 hS => HasR_v l x A c _ w9 (by have := HLN.out; omega) ((HL1.out.below K1_5.out).below hS).1)) ?_
  try simp only [List.getElem_toArray, List.getElem_cons_succ, List.getElem_cons_zero, Act.put, List.setIfInBounds_toArray, List.set_cons_succ, List.set_cons_zero]
  refine wpAnyV_take (i := 34) (v := .bool false) 8 (kept_below w7) rfl (by kernel_rfl) (by kernel_rfl) (fun _ _ _ h => h) (fun _ h => h) (DoesV.reads (by rfl) fun w9 hS => by go_simp) ?_
  try simp only [List.getElem_toArray, List.getElem_cons_succ, List.getElem_cons_zero, Act.put, List.setIfInBounds_toArray, List.set_cons_succ, List.set_cons_zero]
  refine wpAnyV_take (i := 35) (v := .bool false) 8 (kept_below w7) rfl (by kernel_rfl) (by kernel_rfl) (fun _ _ _ h => h) (fun _ h => h) (DoesV.reads (by rfl) fun w9 hS => by go_simp) ?_
  try simp only [List.getElem_toArray, List.getElem_cons_succ, List.getElem_cons_zero, Act.put, List.setIfInBounds_toArray, List.set_cons_succ, List.set_cons_zero]
  refine wpAnyV_take (i := 36) (v := .bool false) 8 (kept_below w7) rfl (by kernel_rfl) (by kernel_rfl) (fun _ _ _ h => h) (fun _ h => h) (DoesV.reads (by rfl) fun w9 hS => by go_simp) ?_
  try simp only [List.getElem_toArray, List.getElem_cons_succ, List.getElem_cons_zero, Act.put, List.setIfInBounds_toArray, List.set_cons_succ, List.set_cons_zero]
  refine wpAnyV_take (i := 37) (v := .slice Ao l.length co) 8 (kept_below w7) rfl (by kernel_rfl) (by kernel_rfl) (fun _ _ _ h => h) (fun _ h => h) (DoesV.reads (by rfl) fun w9 hS => by go_simp) ?_
  try simp only [List.getElem_toArray, List.getElem_cons_succ, List.getElem_cons_zero, Act.put, List.setIfInBounds_toArray, List.set_cons_succ, List.set_cons_zero]
  refine wpAnyV_take (i := 38) (v := .agg (spC s).toArray) 8 (kept_below w7) rfl (by kernel_rfl) (by kernel_rfl) (fun _ _ _ h => h) (fun _ h => h) (DoesV.loadSp (by rfl) _ rfl g1 rfl s (fun w9 hS => (C1.out.below K1_5.out C1.out.lt).below hS (C1.out.below K1_5.out C1.out.lt).lt)) ?_
  try simp only [List.getElem_toArray, List.getElem_cons_succ, List.getElem_cons_zero, Act.put, List.setIfInBounds_toArray, List.set_cons_succ, List.set_cons_zero]
  refine wpAnyV_take (i := 39) (v := .bool (holdsP l s)) 8 (kept_below w7) rfl (by kernel_rfl) (by kernel_rfl) (fun _ _ _ h => h) (fun _ h => h) (DoesV.calls 17 #[.slice Ao l.length co, .agg (spC s).toArray] (by rfl) (fun w9 hS => by go_simp) (fun w9 hS => HK.out.holds l s Ao co w9 (by have := HLN.out; omega) HS.out ((HLO.out.below Ko_5.out).below hS))) ?_
  try simp only [List.getElem_toArray, List.getElem_cons_succ, List.getElem_cons_zero, Act.put, List.setIfInBounds_toArray, List.set_cons_succ, List.set_cons_zero]
  refine wpAnyV_take (i := 40) (v := .slice A l.length c) 8 (kept_below w7) rfl (by kernel_rfl) (by kernel_rfl) (fun _ _ _ h => h) (fun _ h => h) (DoesV.reads (by rfl) fun w9 hS => by go_simp) ?_
  try simp only [List.getElem_toArray, List.getElem_cons_succ, List.getElem_cons_zero, Act.put, List.setIfInBounds_toArray, List.set_cons_succ, List.set_cons_zero]
  refine wpAnyV_take (i := 41) (v := .agg (spC s).toArray) 8 (kept_below w7) rfl (by kernel_rfl) (by kernel_rfl) (fun _ _ _ h => h) (fun _ h => h) (DoesV.loadSp (by rfl) _ rfl g1 rfl s (fun w9 hS => (C1.out.below K1_5.out C1.out.lt).below hS (C1.out.below K1_5.out C1.out.lt).lt)) ?_
  try simp only [List.getElem_toArray, List.getElem_cons_succ, List.getElem_cons_zero, Act.put, List.setIfInBounds_toArray, List.set_cons_succ, List.set_cons_zero]
  refine wpAnyV_take (i := 42) (v := .bool (holdsP l s)) 8 (kept_below w7) rfl (by kernel_rfl) (by kernel_rfl) (fun _ _ _ h => h) (fun _ h => h) (DoesV.calls 18 #[.slice A l.length c, .agg (spC s).toArray] (by rfl) (fun w9 hS => by go_simp) (fun w9 hS => HoldsR_v l s A c _ w9 (by have := HLN.out; omega) ((HL1.out.below K1_5.out).below hS).1)) ?_
  try simp only [List.getElem_toArray, List.getElem_cons_succ, List.getElem_cons_zero, Act.put, List.setIfInBounds_toArray, List.set_cons_succ, List.set_cons_zero]
  refine wpAnyV_take (i := 43) (v := .bool false) 8 (kept_below w7) rfl (by kernel_rfl) (by kernel_rfl) (fun _ _ _ h => h) (fun _ h => h) (DoesV.reads (by rfl) fun w9 hS => by go_simp) ?_
  try simp only [List.getElem_toArray, List.getElem_cons_succ, List.getElem_cons_zero, Act.put, List.setIfInBounds_toArray, List.set_cons_succ, List.set_cons_zero]
  refine wpAnyV_take (i := 44) (v := .bool false) 8 (kept_below w7) rfl (by kernel_rfl) (by kernel_rfl) (fun _ _ _ h => h) (fun _ h => h) (DoesV.reads (by rfl) fun w9 hS => by go_simp) ?_
  try simp only [List.getElem_toArray, List.getElem_cons_succ, List.getElem_cons_zero, Act.put, List.setIfInBounds_toArray, List.set_cons_succ, List.set_cons_zero]
  refine wpAnyV_take (i := 45) (v := .bool false) 8 (kept_below w7) rfl (by kernel_rfl) (by kernel_rfl) (fun _ _ _ h => h) (fun _ h => h) (DoesV.reads (by rfl) fun w9 hS => by go_simp) ?_
  try simp only [List.getElem_toArray, List.getElem_cons_succ, List.getElem_cons_zero, Act.put, List.setIfInBounds_toArray, List.set_cons_succ, List.set_cons_zero]
  refine wpAnyV_take (i := 46) (v := .slice Ao l.length co) 8 (kept_below w7) rfl (by kernel_rfl) (by kernel_rfl) (fun _ _ _ h => h) (fun _ h => h) (DoesV.reads (by rfl) fun w9 hS => by go_simp) ?_
  try simp only [List.getElem_toArray, List.getElem_cons_succ, List.getElem_cons_zero, Act.put, List.setIfInBounds_toArray, List.set_cons_succ, List.set_cons_zero]
  refine wpAnyV_take (i := 47) (v := .int .u64 (lenP l : Int)) 8 (kept_below w7) rfl (by kernel_rfl) (by kernel_rfl) (fun _ _ _ h => h) (fun _ h => h) (DoesV.calls 19 #[.slice Ao l.length co] (by rfl) (fun w9 hS => by go_simp) (fun w9 hS => HK.out.len l Ao co w9 (by have := HLN.out; omega) ((HLO.out.below Ko_5.out).below hS))) ?_
  try simp only [List.getElem_toArray, List.getElem_cons_succ, List.getElem_cons_zero, Act.put, List.setIfInBounds_toArray, List.set_cons_succ, List.set_cons_zero]
  refine wpAnyV_take (i := 48) (v := .slice A l.length c) 8 (kept_below w7) rfl (by kernel_rfl) (by kernel_rfl) (fun _ _ _ h => h) (fun _ h => h) (DoesV.reads (by rfl) fun w9 hS => by go_simp) ?_
  try simp only [List.getElem_toArray, List.getElem_cons_succ, List.getElem_cons_zero, Act.put, List.setIfInBounds_toArray, List.set_cons_succ, List.set_cons_zero]
  refine wpAnyV_take (i := 49) (v := .int .u64 (lenP l : Int)) 8 (kept_below w7) rfl (by kernel_rfl) (by kernel_rfl) (fun _ _ _ h => h) (fun _ h => h) (DoesV.calls 20 #[.slice A l.length c] (by rfl) (fun w9 hS => by go_simp) (fun w9 hS => LenR_v l A c _ w9 (by have := HLN.out; omega) ((HL1.out.below K1_5.out).below hS).1)) ?_
  try simp only [List.getElem_toArray, List.getElem_cons_succ, List.getElem_cons_zero, Act.put, List.setIfInBounds_toArray, List.set_cons_succ, List.set_cons_zero]
  refine wpAnyV_take (i := 50) (v := .bool false) 8 (kept_below w7) rfl (by kernel_rfl) (by kernel_rfl) (fun _ _ _ h => h) (fun _ h => h) (DoesV.reads (by rfl) fun w9 hS => by go_simp) ?_
  try simp only [List.getElem_toArray, List.getElem_cons_succ, List.getElem_cons_zero, Act.put, List.setIfInBounds_toArray, List.set_cons_succ, List.set_cons_zero]
  refine wpAnyV_take (i := 51) (v := .bool false) 8 (kept_below w7) rfl (by kernel_rfl) (by kernel_rfl) (fun _ _ _ h => h) (fun _ h => h) (DoesV.reads (by rfl) fun w9 hS => by go_simp) ?_
  try simp only [List.getElem_toArray, List.getElem_cons_succ, List.getElem_cons_zero, Act.put, List.setIfInBounds_toArray, List.set_cons_succ, List.set_cons_zero]
  refine wpAnyV_take (i := 52) (v := .bool false) 8 (kept_below w7) rfl (by kernel_rfl) (by kernel_rfl) (fun _ _ _ h => h) (fun _ h => h) (DoesV.reads (by rfl) fun w9 hS => by go_simp) ?_
  try simp only [List.getElem_toArray, List.getElem_cons_succ, List.getElem_cons_zero, Act.put, List.setIfInBounds_toArray, List.set_cons_succ, List.set_cons_zero]
  refine wpAnyV_take (i := 53) (v := .agg (spC s).toArray) 8 (kept_below w7) rfl (by kernel_rfl) (by kernel_rfl) (fun _ _ _ h => h) (fun _ h => h) (DoesV.loadSp (by rfl) _ rfl g1 rfl s (fun w9 hS => (C1.out.below K1_5.out C1.out.lt).below hS (C1.out.below K1_5.out C1.out.lt).lt)) ?_
  try simp only [List.getElem_toArray, List.getElem_cons_succ, List.getElem_cons_zero, Act.put, List.setIfInBounds_toArray, List.set_cons_succ, List.set_cons_zero]
  refine wpAnyV_take (i := 55) (v := .agg (spC s).toArray) 8 (kept_below w7) rfl (by kernel_rfl) (by kernel_rfl) (fun _ _ _ h => h) (fun _ h => h) (DoesV.loadSp (by rfl) _ rfl g1 rfl s (fun w9 hS => (C1.out.below K1_5.out C1.out.lt).below hS (C1.out.below K1_5.out C1.out.lt).lt)) ?_
  try simp only [List.getElem_toArray, List.getElem_cons_succ, List.getElem_cons_zero, Act.put, List.setIfInBounds_toArray, List.set_cons_succ, List.set_cons_zero]
  have HPN := Lib.hid (show (pagesP s).length ≤ 64 by unfold pagesP; split; exact Nat.le_trans (List.length_filter_le _ _) (by simp); exact Nat.zero_le _)
  refine wpAnyV_onlyG (i := 54) rfl (by kernel_rfl) (by rfl) (fun y hy => wp_of_call (f := 22) (args := #[.agg (spC s).toArray]) (by go_simp) (HK.out.pages s y HS.out) fun e u hu => ?_)
  · obtain ⟨v1, rfl, hp1⟩ := hu
    obtain ⟨P1, n1, rfl, hr1⟩ := hp1.form
    have HQ1 := Lib.hid hr1
    have BY := Lib.hid (below_chain hy hp1.2)
    refine ⟨_, rfl, Below u.heap.size u, Below.refl _ _, kept_below u, fun _ z hz => below_chain (below_chain hy hp1.2) hz, ?_⟩
    clear hp1 hr1 hy
    try simp only [List.getElem_toArray, List.getElem_cons_succ, List.getElem_cons_zero, Act.put, List.setIfInBounds_toArray, List.set_cons_succ, List.set_cons_zero]
    refine wpAnyV_onlyG (i := 56) rfl (by kernel_rfl) (by rfl) (fun y2 hy2 => wp_of_call (f := 23) (args := #[.agg (spC s).toArray]) (by go_simp) (PagesR_v s y2 HS.out) fun e u2 hu => ?_)
    obtain ⟨v2, rfl, hp2⟩ := hu
    obtain ⟨P2, n2, rfl, hr2⟩ := hp2.form
    have HQ2 := Lib.hid hr2
    have BZ := Lib.hid (below_chain hy2 hp2.2)
    have HQ3 := Lib.hid (HQ1.out.below BZ.out)
    refine ⟨_, rfl, Below u2.heap.size u2, Below.refl _ _, kept_below u2, fun _ z hz => below_chain (below_chain hy2 hp2.2) hz, ?_⟩
    clear hp2 hr2 hy2
    try simp only [List.getElem_toArray, List.getElem_cons_succ, List.getElem_cons_zero, Act.put, List.setIfInBounds_toArray, List.set_cons_succ, List.set_cons_zero]
    refine wpAnyV_take (i := 57) (v := .bool true) 8 (kept_below u2) rfl (by kernel_rfl) (by kernel_rfl) (fun _ _ _ h => h) (fun _ h => h) (DoesV.calls 21 #[.slice P1 (pagesP s).length n1, .slice P2 (pagesP s).length n2] (by rfl) (fun w9 hS => by go_simp) (fun w9 hS => (Ints_any (pagesP s) (pagesP s) P1 P2 n1 n2 _ _ w9 (by have := HPN.out; omega) (by have := HPN.out; omega) (HQ3.out.below hS) (HQ2.out.below hS)).mono fun e u h => ⟨by rw [h.1, decide_eq_true (rfl : pagesP s = pagesP s)], h.2⟩)) ?_
    try simp only [List.getElem_toArray, List.getElem_cons_succ, List.getElem_cons_zero, Act.put, List.setIfInBounds_toArray, List.set_cons_succ, List.set_cons_zero]
    refine wpAnyV_take (i := 58) (v := .bool false) 8 (kept_below u2) rfl (by kernel_rfl) (by kernel_rfl) (fun _ _ _ h => h) (fun _ h => h) (DoesV.reads (by rfl) fun w9 hS => by go_simp) ?_
    try simp only [List.getElem_toArray, List.getElem_cons_succ, List.getElem_cons_zero, Act.put, List.setIfInBounds_toArray, List.set_cons_succ, List.set_cons_zero]
    refine wpAnyV_take (i := 59) (v := .bool false) 8 (kept_below u2) rfl (by kernel_rfl) (by kernel_rfl) (fun _ _ _ h => h) (fun _ h => h) (DoesV.reads (by rfl) fun w9 hS => by go_simp) ?_
    try simp only [List.getElem_toArray, List.getElem_cons_succ, List.getElem_cons_zero, Act.put, List.setIfInBounds_toArray, List.set_cons_succ, List.set_cons_zero]
    refine wpAnyV_done (by kernel_rfl) (fun y hu => ?_) _
    have BQ := Lib.hid (below_chain (below_chain BY.out BZ.out) hu)
    clear hu
    have KO := Lib.hid (below_chain Ko_5.out BQ.out)
    have OXa := Lib.hid ((HXa.out.below Ka_5.out).below BQ.out)
    have OXc := Lib.hid ((HXc.out.below Kc_5.out).below BQ.out)
    go_wp2_with fail
    go_loopw [16] (fun j wr => ∃ (k : Nat) (r : List Sp), j = .int .i64 k ∧ k ≤ ra.length ∧ r.length = ra.length ∧ OwnX spE wr w3.heap.size (w3.heap.size ≤ ·) (.slice Aa ra.length ca) r ∧ Turn y wr (fun g => (Value.slice Aa ra.length ca).ownBlock = some g)) (fun j _ => ra.length - (RowKit.intOf j).toNat)
    case atStart => exact ⟨0, ra, rfl, Nat.zero_le _, rfl, OXa.out, (Turn.of_below (Below.refl y.heap.size y) fun _ => False).mono fun _ _ h => h.elim⟩
    case round =>
      obtain ⟨k, r, rfl, hk, hrl, hor, hT⟩ := hrel
      by_cases hlt : k < ra.length
      · obtain ⟨ga, rfl, hga⟩ := hor.block (fun e => by rw [e] at hrl; simp at hrl; omega)
        have HO := Lib.hid hor
        have HT := Lib.hid hT
        have HKR := Lib.hid (show k < r.length by omega)
        have HRL := Lib.hid hrl
        clear hor hT hrl hga
        go_wp2_with (first
          | ((with_reducible show wpList _ _ _ _ _ wr); refine wpList_setSp rfl _ _ rfl HO.out k HKR.out rfl (7, 7) rfl ⟨by decide, by decide⟩ ?_; intro w' h1 h2; go_frame; have HO2 := Lib.hid h1; have HT2 := Lib.hid h2; clear h1 h2)
          | fail)
        go_roundw
        case rel => exact ⟨k + 1, r.set k (7, 7), by go_num, hlt, by rw [List.length_set]; exact HRL.out, HO2.out, HT.out.trans (HT2.out.mono fun q _ e => by rw [e]; rfl) fun _ _ h => h⟩
        case measure => simp [RowKit.intOf]; omega
      · have HW5 := Lib.hid (show w3.heap.size ≤ w5.heap.size from Nat.le_trans W34.out W45.out)
        have BO := Lib.hid (show Below w3.heap.size w3 wr from KO.out.trans (hT.below KO.out.size fun q e => (HXa.out.lt q e).1))
        have OC := Lib.hid (OXc.out.turn hT fun q hq e => absurd (HXa.out.lt q e).2 (Nat.not_lt.2 (Nat.le_trans W45.out hq)))
        clear hor hT hrl hk
        go_wp2_with fail
        go_loopw [17] (fun j wq => ∃ (k : Nat) (r : List Sp), j = .int .i64 k ∧ k ≤ rc.length ∧ r.length = rc.length ∧ OwnX spE wq w5.heap.size (w5.heap.size ≤ ·) (.slice Ac rc.length cc) r ∧ Below w3.heap.size w3 wq) (fun j _ => rc.length - (RowKit.intOf j).toNat)
        case atStart => exact ⟨0, rc, rfl, Nat.zero_le _, rfl, OC.out, BO.out⟩
        case round =>
          obtain ⟨k2, r, rfl, hk2, hrl, hor, hB⟩ := hrel
          by_cases hlt2 : k2 < rc.length
          · obtain ⟨gc, rfl, hgc⟩ := hor.block (fun e => by rw [e] at hrl; simp at hrl; omega)
            have HO := Lib.hid hor
            have HB := Lib.hid hB
            have HKR := Lib.hid (show k2 < r.length by omega)
            have HRL := Lib.hid hrl
            have HGC := Lib.hid hgc
            clear hor hB hrl hgc
            go_wp2_with (first
              | ((with_reducible show wpList _ _ _ _ _ wr); refine wpList_setSp rfl _ _ rfl HO.out k2 HKR.out rfl (7, 7) rfl ⟨by decide, by decide⟩ ?_; intro w' h1 h2; go_frame; have HO2 := Lib.hid h1; have HT2 := Lib.hid h2; clear h1 h2)
              | fail)
            go_roundw
            case rel => exact ⟨k2 + 1, r.set k2 (7, 7), by go_num, hlt2, by rw [List.length_set]; exact HRL.out, HO2.out, HB.out.trans (HT2.out.below HB.out.size fun q e => by rw [e]; exact Nat.le_trans HW5.out HGC.out)⟩
            case measure => simp [RowKit.intOf]; omega
          · have HB := Lib.hid hB
            clear hor hB hrl hk2
            go_wp2_with fail
            refine (Spans_any l l Ao A co c _ _ wr (by have := HLN.out; omega) (by have := HLN.out; omega) (HLO.out.below HB.out).1 ((HL1.out.below B3.out).below HB.out).1).mono ?_
            rintro e u1 ⟨rfl, hb⟩
            rw [decide_eq_true (rfl : l = l)]
            have BU := Lib.hid (below_chain HB.out hb)
            clear hb
            go_wp2_with fail
            refine (lives12_v HK.out u1).mono ?_
            rintro e wz ⟨rfl, hb⟩
            have BW := Lib.hid (below_chain (below_chain (below_chain B1.out B3.out) BU.out) hb)
            clear hb
            go_wp2_with fail
            go_ret
            exact ⟨rfl, BW.out⟩

end Go.Proofs.Ythjcnijageiaiaa
