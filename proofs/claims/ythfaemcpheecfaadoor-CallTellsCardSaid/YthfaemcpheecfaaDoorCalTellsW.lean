/- CallTells: the walk. -/
import Derived.Test.YthfaemcpheecfaaDoorCalL
import Derived.Test.YthfaemcpheecfaaDoorCalQ3
import Derived.Test.YthfaemcpheecfaaDoorTblK
namespace Go.Proofs.YthfaemcpheecfaaDoor
open Go.RowKit Go.Shelf
set_option linter.unusedVariables false
set_option maxRecDepth 100000
set_option linter.unusedSimpArgs false

theorem DoesV.loadC {P : Program} {ops : Array Oper} {T : World → Prop} {o : Oper} {a : Act} (hw : Region.wanted o (yielded ops a.tmps) = true) (ty : TypeId) (x : Operand) (ho : o.op = .load ty x) (b f : Nat) (hx : a.eval x = .pointer (some ⟨b, f, none⟩)) (cs : List Value) (hc : ∀ w, T w → At w b f cs) (d : TypeDesc) (hu : P.underlying ty = some d)
    (hd : (match d with | .struct _ | .array _ _ => true | _ => false) = true) (hi : (P.info? ty).map (·.size) = some cs.length) : DoesV P ops T o (.agg cs.toArray) a :=
  DoesV.reads hw fun w hT => by
    unfold execOp
    simp only [ho, hx, Instr.loadAt, Instr.sureAddr, Sem.run_bind, Sem.run_pure, Result.andThen_ok, run_loadVar_at w ty b f cs (hc w hT) d hu hd hi]
/-- the bytes that Put tells, of whatever call; the error -/
def putL (c : CallX) : List UInt8 := if mayX c then putX c else []
def putE (c : CallX) : Int := if mayX c then 0 else 2
theorem Put_any10 {F : Nat → Prop} {c : CallX} {v : Value} {w : World} (h : CalV w F c v) (hF : ∀ k, F k → k < w.heap.size) (hT : Tabs w) : Calls Tryd.prog 7 #[.agg (calCells c v).toArray] w fun e w' => ∃ A cp, e = .returned (.tuple #[.slice A (putL c).length cp, .int .i64 (putE c)]) ∧ BsV w' (w.heap.size ≤ ·) (.slice A (putL c).length cp) (putL c) ∧ Below w.heap.size w w' := by
  refine (Put_v h hF hT).mono ?_
  unfold putL putE
  rintro e w' (⟨hm, he, hb⟩ | ⟨hm, v, he, hv, -, -, hb⟩)
  · rw [hm]; exact ⟨none, 0, he, BsV.nil _ _, hb⟩
  · obtain ⟨A, cp, rfl, -⟩ := id hv
    rw [hm]; exact ⟨A, cp, he, hv, hb⟩
theorem PutR_any10 {F : Nat → Prop} {c : CallX} {v : Value} {w : World} (h : CalV w F c v) : Calls Tryd.prog 8 #[.agg (calCells c v).toArray] w fun e w' => ∃ A cp, e = .returned (.tuple #[.slice A (putL c).length cp, .int .i64 (putE c)]) ∧ BsV w' (w.heap.size ≤ ·) (.slice A (putL c).length cp) (putL c) ∧ Below w.heap.size w w' := by
  refine (PutR_v h).mono ?_
  unfold putL putE
  rintro e w' (⟨hm, he, hb⟩ | ⟨hm, v, he, hv, hb⟩)
  · rw [hm]; exact ⟨none, 0, he, BsV.nil _ _, hb⟩
  · obtain ⟨A, cp, rfl, -⟩ := id hv
    rw [hm]; exact ⟨A, cp, he, hv, hb⟩
theorem GetC_b {F : Nat → Prop} {l : List UInt8} {A : Option Addr} {cp : Nat} {w : World} (h : BsV w F (.slice A l.length cp) l) (hl : l.length ≤ 140737488355328) (hT : Tabs w) {x : CallX × Int} (hx : getX l = x) : Calls Tryd.prog 9 #[.slice A l.length cp] w fun e w' => ∃ A' c', e = .returned (.tuple #[.agg (calCells x.1 (.slice A' x.1.data.length c')).toArray, .int .i64 x.2]) ∧ CalV w' (w.heap.size ≤ ·) x.1 (.slice A' x.1.data.length c') ∧ Below w.heap.size w w' := by
  obtain ⟨A0, c0, e0, h1, h2, -⟩ := id h
  cases e0
  subst hx
  refine (Get_v l A cp w hl h1.rd h2 hT).mono ?_
  rintro e w' ⟨v, he, hv, hb⟩
  obtain ⟨A', c', rfl, -⟩ := id hv.1
  exact ⟨A', c', he, hv, hb⟩
theorem GetR_b {F : Nat → Prop} {l : List UInt8} {A : Option Addr} {cp : Nat} {w : World} (h : BsV w F (.slice A l.length cp) l) (hl : l.length ≤ 140737488355328) {x : CallX × Int} (hx : getX l = x) : Calls Tryd.prog 10 #[.slice A l.length cp] w fun e w' => ∃ A' c', e = .returned (.tuple #[.agg (calCells x.1 (.slice A' x.1.data.length c')).toArray, .int .i64 x.2]) ∧ CalV w' (w.heap.size ≤ ·) x.1 (.slice A' x.1.data.length c') ∧ Below w.heap.size w w' := by
  obtain ⟨A0, c0, e0, h1, h2, h3, h4⟩ := id h
  cases e0
  subst hx
  refine (GetR_v l A cp w hl h1.rd h3 h4 h2).mono ?_
  rintro e w' ⟨v, he, hv, hb⟩
  obtain ⟨A', c', rfl, -⟩ := id hv.1
  exact ⟨A', c', he, hv, hb⟩
set_option maxHeartbeats 16000000 in
theorem tells10_walk (c : CallX) (u : Value) (d : CallX) (ud : Value) (l2 : List UInt8) (A2 : Option Addr) (c2 : Nat) (w : World) (hT : Tabs w) (hc : CalV w (· < w.heap.size) c u) (hcl : c.data.length ≤ 140737488351232) (hd : CalV w (· < w.heap.size) d ud)
    (hl2 : l2.length ≤ 140737488351232) (rd2 : Rd w A2 l2) (hlc2 : l2.length ≤ c2) (hcm2 : c2 ≤ maxLen) (nil2 : A2 = none → l2 = [] ∧ c2 = 0) :
    Calls Tryd.prog 3 #[.agg (calCells c u).toArray, .agg (calCells d ud).toArray, .slice A2 l2.length c2] w fun e w' => e = .returned (.bool true) ∧ Below w.heap.size w w' := by
  have hmix : Tryd.prog.follows .mixedOrders = true := by kernel_rfl
  have hv2 : BsV w (· < w.heap.size) (.slice A2 l2.length c2) l2 := ⟨A2, c2, rfl, rd2.f fun b off e hlt => hlt, nil2, hlc2, hcm2⟩
  obtain ⟨A, cp, rfl, -⟩ := id hc.1
  obtain ⟨Ad, cpd, rfl, -⟩ := id hd.1
  have HV2 := Lib.hid hv2
  have HCV := Lib.hid hc
  have HDV := Lib.hid hd
  have HT := Lib.hid hT
  have HL2 := Lib.hid hl2
  have HCL := Lib.hid hcl
  have HNIL := Lib.hid nil2
  have hnilc : A = none → c.data = [] ∧ cp = 0 := by obtain ⟨A', c', e, -, e2, -⟩ := hc.1; injection e with ea en ec; subst ea; subst ec; exact e2
  have HNC := Lib.hid hnilc
  obtain ⟨z, hz⟩ : ∃ z, getX l2 = z := ⟨_, rfl⟩
  obtain ⟨zc, ze⟩ := z
  have HZ := Lib.hid hz
  clear hv2 hc hd hT hl2 rd2 hlc2 hcm2 nil2 hcl hz hnilc
  go_enter Tryd.func3, Tryd.ntmps3
  go_wp2_with (first
    | ((with_reducible show wpList _ _ _ _ _ w); refine wpList_boxS rfl 28 _ rfl (calCells c (.slice A c.data.length cp)) rfl ?_; intro g1 w1 hk1 hb1 hg1; go_frame; have C1 := Lib.hid hk1; have B1 := Lib.hid hb1; clear hk1 hb1 hg1)
    | ((with_reducible show wpList _ _ _ _ _ w1); refine wpList_boxS rfl 28 _ rfl (calCells d (.slice Ad d.data.length cpd)) rfl ?_; intro g2 w2 hk2 hb2 hg2; go_frame; have C2 := Lib.hid hk2; have B2 := Lib.hid hb2; clear hk2 hb2 hg2)
    | ((with_reducible show wpList _ _ _ _ _ w2); refine wpList_loadS rfl 28 _ rfl g1 rfl (calCells c (.slice A c.data.length cp)) (C1.out.below B2.out C1.out.lt) _ Tryd.underlying28 rfl infoCall ?_; go_frame)
    | ((with_reducible show wpList _ _ _ _ _ w2); refine wpList_allocS rfl 28 rfl (calCells calZero (.slice none 0 0)) callZero ?_; intro g3 w3 hk3 hb3 hg3; go_frame; have CA := Lib.hid hk3; have BA := Lib.hid hb3; have GA := Lib.hid hg3; clear hk3 hb3 hg3)
    | ((with_reducible show wpList _ _ _ _ _ w3); refine wpList_storeS rfl 28 _ _ rfl g3 rfl (calCells c (.slice A c.data.length cp)) (calCells calZero (.slice none 0 0)) rfl CA.out rfl (cal_one rfl) infoCall ?_; intro w4 hk4 ht4; go_frame; have C3 := Lib.hid hk4; have B4 := Lib.hid (BA.out.trans (ht4.below BA.out.size fun k e => by have := GA.out; omega)); have q12 : w4.cell? ⟨g1, 12, none⟩ = some (.slice A c.data.length cp) := ((C1.out.below B2.out C1.out.lt).below B4.out (C1.out.below B2.out C1.out.lt).lt).cell 12 rfl; clear hk4 ht4)
    | fail)
  have K0_1 := Lib.hid (B1.out)
  have K0_2 := Lib.hid (below_chain K0_1.out B2.out)
  have K1_2 := Lib.hid (B2.out)
  have K0_3 := Lib.hid (below_chain K0_2.out B4.out)
  have K1_3 := Lib.hid (below_chain K1_2.out B4.out)
  have K2_3 := Lib.hid (B4.out)
  have HG3 := Lib.hid (show w2.heap.size ≤ g3 from GA.out)
  have hwd := Wide_ty c.data A cp w4 (by have := HCL.out; omega) (HCV.out.1.below K0_3.out).rdC HNC.out
  refine hwd.mono ?_
  clear hwd q12
  rintro e w5 ⟨go, capo, rfl, hco, hcmo, hro, -, hgo0, hgo1, hb⟩
  have hc5 := C3.out.below hb C3.out.lt
  have kp := hc5.cell 12 rfl
  have kf := hc5.frozen 12
  have K0_4 := Lib.hid (below_chain K0_3.out hb)
  have K1_4 := Lib.hid (below_chain K1_3.out hb)
  have K2_4 := Lib.hid (below_chain K2_3.out hb)
  have HC5 := Lib.hid hc5
  have HRO := Lib.hid hro
  have HO := Lib.hid (And.intro hco (And.intro hcmo (And.intro hgo0 hgo1)))
  have HLT3 := Lib.hid C3.out.lt
  clear hb hc5 hro hco hcmo hgo0 hgo1
  go_wp2_with fail
  clear kp kf
  obtain ⟨w6, hw6⟩ : ∃ w6, w5.setCell ⟨g3, 12, none⟩ (.slice (some ⟨go, 0, none⟩) c.data.length capo) = w6 := ⟨_, rfl⟩
  rw [hw6]
  have ht6 : Turn w5 w6 (· = g3) := by rw [← hw6]; exact Turn.setAt w5 g3 12 _
  have hc6 : Cs w6 g3 28 (calCells c (.slice (some ⟨go, 0, none⟩) c.data.length capo)).toArray := by rw [← hw6]; exact HC5.out.set 12 _
  have hro6 : Rd w6 (some ⟨go, 0, none⟩) (c.data ++ [9, 9, 9]) := by
    rcases HRO.out with h | ⟨b, off, e, h⟩
    · exact .inl h
    · cases e
      refine .inr ⟨go, 0, rfl, fun j hj => (ht6.cellT (by show go < w5.heap.size; exact HO.out.2.2.2) (by show ¬ go = g3; have := HLT3.out; have := HO.out.2.2.1; omega)).trans (h j hj)⟩
  have hb6 : Below w2.heap.size w5 w6 := ht6.below (by have := (K2_4.out).size; exact this) fun k e => by have := HG3.out; omega
  have J2 := Lib.hid ((K2_4.out).trans hb6)
  have J1 := Lib.hid (B2.out.trans (J2.out.mono B2.out.size))
  have J0 := Lib.hid (B1.out.trans (J1.out.mono B1.out.size))
  have HC6 := Lib.hid hc6
  have HR6 := Lib.hid hro6
  clear hc6 hro6 hb6 ht6 hw6
  have hwb := Wide_ty l2 A2 c2 w6 (by have := HL2.out; omega) (HV2.out.below J0.out).rdC HNIL.out
  refine hwb.mono ?_
  clear hwb
  rintro e w7 ⟨gb, capb, rfl, hcb, hcmb, hrb, -, hgb0, hgb1, hb⟩
  have K0_5 := Lib.hid (below_chain J0.out hb)
  have K1_5 := Lib.hid (below_chain J1.out hb)
  have K2_5 := Lib.hid (below_chain J2.out hb)
  have K6_5 := Lib.hid (hb)
  have HRB := Lib.hid hrb
  have HB7 := Lib.hid (And.intro hcb hcmb)
  clear hb hrb hcb hcmb hgb0 hgb1
  obtain ⟨p0, p1, p2, p3, p4, p5, p6, p7, p8, p9, p10, p11, p12⟩ := Cs.cal (HC6.out.below K6_5.out HC6.out.lt)
  have hcv6 : CalV w6 (· < w6.heap.size) c (.slice (some ⟨go, 0, none⟩) c.data.length capo) := ⟨⟨_, capo, rfl, (rd_prefix HR6.out).f (fun b off e hlt => hlt), (fun h => by cases h), by have := HO.out.1; omega, HO.out.2.1⟩, HCV.out.2⟩
  have HCO := Lib.hid hcv6
  clear hcv6
  have HP := Lib.hid (Put_any10 (HCO.out.below K6_5.out) (fun k hk => Nat.lt_of_lt_of_le hk (K6_5.out).size) (HT.out.below K0_5.out))
  go_wp2_with fail
  refine HP.out.mono ?_
  rintro e w8 ⟨Ax, cx, rfl, hx, hb⟩
  have K0_6 := Lib.hid (below_chain K0_5.out hb)
  have K1_6 := Lib.hid (below_chain K1_5.out hb)
  have K2_6 := Lib.hid (below_chain K2_5.out hb)
  have K6_6 := Lib.hid (below_chain K6_5.out hb)
  have K7_6 := Lib.hid (hb)
  have HX := Lib.hid hx
  clear hx hb p0 p1 p2 p3 p4 p5 p6 p7 p8 p9 p10 p11 p12
  obtain ⟨p0, p1, p2, p3, p4, p5, p6, p7, p8, p9, p10, p11, p12⟩ := Cs.cal (C1.out.below K1_6.out C1.out.lt)
  have HQ := Lib.hid (PutR_any10 (HCV.out.below K0_6.out))
  go_wp2_with fail
  refine HQ.out.mono ?_
  rintro e w9 ⟨Ay, cy, rfl, hy, hb⟩
  have K0_7 := Lib.hid (below_chain K0_6.out hb)
  have K1_7 := Lib.hid (below_chain K1_6.out hb)
  have K2_7 := Lib.hid (below_chain K2_6.out hb)
  have K6_7 := Lib.hid (below_chain K6_6.out hb)
  have K7_7 := Lib.hid (below_chain K7_6.out hb)
  have K8_7 := Lib.hid (hb)
  have HY := Lib.hid hy
  clear hy hb p0 p1 p2 p3 p4 p5 p6 p7 p8 p9 p10 p11 p12
  have hvb : BsV w7 (fun _ => True) (.slice (some ⟨gb, 0, none⟩) l2.length capb) l2 := ⟨_, capb, rfl, (rd_prefix HRB.out).f (fun b off e hlt => trivial), (fun h => by cases h), by have := HB7.out.1; omega, HB7.out.2⟩
  have HVB := Lib.hid hvb
  clear hvb
  have HG := Lib.hid (GetC_b (HVB.out.below K7_7.out) (by have := HL2.out; omega) (HT.out.below K0_7.out) HZ.out)
  go_wp2_with fail
  refine HG.out.mono ?_
  rintro e wm ⟨Am, cm, rfl, hvm, hb⟩
  have K0_8 := Lib.hid (below_chain K0_7.out hb)
  have K1_8 := Lib.hid (below_chain K1_7.out hb)
  have K2_8 := Lib.hid (below_chain K2_7.out hb)
  have K6_8 := Lib.hid (below_chain K6_7.out hb)
  have K7_8 := Lib.hid (below_chain K7_7.out hb)
  have K8_8 := Lib.hid (below_chain K8_7.out hb)
  have K9_8 := Lib.hid (hb)
  have HVM := Lib.hid hvm
  clear hvm hb
  go_wp2_with (first
    | ((with_reducible show wpList _ _ _ _ _ wm); refine wpList_allocS rfl 28 rfl (calCells calZero (.slice none 0 0)) callZero ?_; intro gM waM hk4 hb4 hg4; go_frame; have CA := Lib.hid hk4; have BA := Lib.hid hb4; have GA := Lib.hid hg4; clear hk4 hb4 hg4)
    | ((with_reducible show wpList _ _ _ _ _ waM); refine wpList_storeS rfl 28 _ _ rfl gM rfl (calCells zc (.slice Am zc.data.length cm)) (calCells calZero (.slice none 0 0)) rfl CA.out rfl (cal_one rfl) infoCall ?_; intro wbM hk5 ht5; go_frame; have CM := Lib.hid hk5; have BB := Lib.hid (BA.out.trans (ht5.below BA.out.size fun k e => by have := GA.out; omega)); clear hk5 ht5 CA BA GA)
    | fail)
  have K0_9 := Lib.hid (below_chain K0_8.out BB.out)
  have K1_9 := Lib.hid (below_chain K1_8.out BB.out)
  have K2_9 := Lib.hid (below_chain K2_8.out BB.out)
  have K6_9 := Lib.hid (below_chain K6_8.out BB.out)
  have K7_9 := Lib.hid (below_chain K7_8.out BB.out)
  have K8_9 := Lib.hid (below_chain K8_8.out BB.out)
  have K9_9 := Lib.hid (below_chain K9_8.out BB.out)
  have Km_9 := Lib.hid (BB.out)
  clear BB
  have HG2 := Lib.hid (GetR_b (HV2.out.below K0_9.out) (by have := HL2.out; omega) HZ.out)
  refine HG2.out.mono ?_
  rintro e wn ⟨An, cn, rfl, hvn, hb⟩
  have K0_10 := Lib.hid (below_chain K0_9.out hb)
  have K1_10 := Lib.hid (below_chain K1_9.out hb)
  have K2_10 := Lib.hid (below_chain K2_9.out hb)
  have K6_10 := Lib.hid (below_chain K6_9.out hb)
  have K7_10 := Lib.hid (below_chain K7_9.out hb)
  have K8_10 := Lib.hid (below_chain K8_9.out hb)
  have K9_10 := Lib.hid (below_chain K9_9.out hb)
  have Km_10 := Lib.hid (below_chain Km_9.out hb)
  have KM_10 := Lib.hid (hb)
  have HVN := Lib.hid hvn
  clear hvn hb
  go_wp2_with (first
    | ((with_reducible show wpList _ _ _ _ _ wn); refine wpList_allocS rfl 28 rfl (calCells calZero (.slice none 0 0)) callZero ?_; intro gN waN hk4 hb4 hg4; go_frame; have CA := Lib.hid hk4; have BA := Lib.hid hb4; have GA := Lib.hid hg4; clear hk4 hb4 hg4)
    | ((with_reducible show wpList _ _ _ _ _ waN); refine wpList_storeS rfl 28 _ _ rfl gN rfl (calCells zc (.slice An zc.data.length cn)) (calCells calZero (.slice none 0 0)) rfl CA.out rfl (cal_one rfl) infoCall ?_; intro wbN hk5 ht5; go_frame; have CN := Lib.hid hk5; have BB := Lib.hid (BA.out.trans (ht5.below BA.out.size fun k e => by have := GA.out; omega)); clear hk5 ht5 CA BA GA)
    | fail)
  have K0_11 := Lib.hid (below_chain K0_10.out BB.out)
  have K1_11 := Lib.hid (below_chain K1_10.out BB.out)
  have K2_11 := Lib.hid (below_chain K2_10.out BB.out)
  have K6_11 := Lib.hid (below_chain K6_10.out BB.out)
  have K7_11 := Lib.hid (below_chain K7_10.out BB.out)
  have K8_11 := Lib.hid (below_chain K8_10.out BB.out)
  have K9_11 := Lib.hid (below_chain K9_10.out BB.out)
  have Km_11 := Lib.hid (below_chain Km_10.out BB.out)
  have KM_11 := Lib.hid (below_chain KM_10.out BB.out)
  have Kn_11 := Lib.hid (BB.out)
  clear BB
  refine wp_region_V [] (Below wbN.heap.size wbN) hmix ((Below.refl _ _).drew) ?_
  change wpAnyV _ _ _ _ _ _ _ _ _
  refine wpAnyV_take (i := 0) (v := .agg (calCells c (.slice (some ⟨go, 0, none⟩) c.data.length capo)).toArray) 8 (kept_below wbN) rfl (by kernel_rfl) (by kernel_rfl) (fun _ _ _ h => h) (fun _ h => h) (DoesV.loadC (by rfl) 28 _ rfl g3 0 rfl (calCells c (.slice (some ⟨go, 0, none⟩) c.data.length capo)) (fun w9 hS => At.whole ((HC6.out.below K6_11.out HC6.out.lt).below hS (HC6.out.below K6_11.out HC6.out.lt).lt)) _ Tryd.underlying28 rfl infoCall) ?_
  try simp only [List.getElem_toArray, List.getElem_cons_succ, List.getElem_cons_zero, Act.put, List.setIfInBounds_toArray, List.set_cons_succ, List.set_cons_zero]
  refine wpAnyV_take (i := 1) (v := .bool (mayX c)) 8 (kept_below wbN) rfl (by kernel_rfl) (by kernel_rfl) (fun _ _ _ h => h) (fun _ h => h) (DoesV.calls 11 #[.agg (calCells c (.slice (some ⟨go, 0, none⟩) c.data.length capo)).toArray] (by rfl) (fun w9 hS => by go_simp) (fun w9 hS => May_v ((HCO.out.below K6_11.out).below hS) ((HT.out.below K0_11.out).below hS))) ?_
  try simp only [List.getElem_toArray, List.getElem_cons_succ, List.getElem_cons_zero, Act.put, List.setIfInBounds_toArray, List.set_cons_succ, List.set_cons_zero]
  refine wpAnyV_take (i := 2) (v := .agg (calCells c (.slice A c.data.length cp)).toArray) 8 (kept_below wbN) rfl (by kernel_rfl) (by kernel_rfl) (fun _ _ _ h => h) (fun _ h => h) (DoesV.loadC (by rfl) 28 _ rfl g1 0 rfl (calCells c (.slice A c.data.length cp)) (fun w9 hS => At.whole ((C1.out.below K1_11.out C1.out.lt).below hS (C1.out.below K1_11.out C1.out.lt).lt)) _ Tryd.underlying28 rfl infoCall) ?_
  try simp only [List.getElem_toArray, List.getElem_cons_succ, List.getElem_cons_zero, Act.put, List.setIfInBounds_toArray, List.set_cons_succ, List.set_cons_zero]
  refine wpAnyV_take (i := 3) (v := .bool (mayX c)) 8 (kept_below wbN) rfl (by kernel_rfl) (by kernel_rfl) (fun _ _ _ h => h) (fun _ h => h) (DoesV.calls 12 #[.agg (calCells c (.slice A c.data.length cp)).toArray] (by rfl) (fun w9 hS => by go_simp) (fun w9 hS => MayR_v ((HCV.out.below K0_11.out).below hS))) ?_
  try simp only [List.getElem_toArray, List.getElem_cons_succ, List.getElem_cons_zero, Act.put, List.setIfInBounds_toArray, List.set_cons_succ, List.set_cons_zero]
  refine wpAnyV_take (i := 4) (v := .bool false) 8 (kept_below wbN) rfl (by kernel_rfl) (by kernel_rfl) (fun _ _ _ h => h) (fun _ h => h) (DoesV.reads (by rfl) fun w9 hS => by go_simp) ?_
  try simp only [List.getElem_toArray, List.getElem_cons_succ, List.getElem_cons_zero, Act.put, List.setIfInBounds_toArray, List.set_cons_succ, List.set_cons_zero]
  refine wpAnyV_take (i := 5) (v := .bool false) 8 (kept_below wbN) rfl (by kernel_rfl) (by kernel_rfl) (fun _ _ _ h => h) (fun _ h => h) (DoesV.reads (by rfl) fun w9 hS => by go_simp) ?_
  try simp only [List.getElem_toArray, List.getElem_cons_succ, List.getElem_cons_zero, Act.put, List.setIfInBounds_toArray, List.set_cons_succ, List.set_cons_zero]
  refine wpAnyV_take (i := 6) (v := .slice Ax (putL c).length cx) 8 (kept_below wbN) rfl (by kernel_rfl) (by kernel_rfl) (fun _ _ _ h => h) (fun _ h => h) (DoesV.reads (by rfl) fun w9 hS => by go_simp) ?_
  try simp only [List.getElem_toArray, List.getElem_cons_succ, List.getElem_cons_zero, Act.put, List.setIfInBounds_toArray, List.set_cons_succ, List.set_cons_zero]
  refine wpAnyV_take (i := 7) (v := .slice Ay (putL c).length cy) 8 (kept_below wbN) rfl (by kernel_rfl) (by kernel_rfl) (fun _ _ _ h => h) (fun _ h => h) (DoesV.reads (by rfl) fun w9 hS => by go_simp) ?_
  try simp only [List.getElem_toArray, List.getElem_cons_succ, List.getElem_cons_zero, Act.put, List.setIfInBounds_toArray, List.set_cons_succ, List.set_cons_zero]
  refine wpAnyV_take (i := 8) (v := .bool true) 8 (kept_below wbN) rfl (by kernel_rfl) (by kernel_rfl) (fun _ _ _ h => h) (fun _ h => h) (DoesV.calls 13 #[.slice Ax (putL c).length cx, .slice Ay (putL c).length cy] (by rfl) (fun w9 hS => by go_simp) (fun w9 hS => (Same_any Ax Ay (putL c) (putL c) cx cy w9 ((HX.out.below K8_11.out).below hS).rdC ((HY.out.below K9_11.out).below hS).rdC).mono fun e u h => ⟨by rw [h.1, show (putL c == putL c) = true from beq_self_eq_true _], h.2 ▸ Below.refl _ _⟩)) ?_
  try simp only [List.getElem_toArray, List.getElem_cons_succ, List.getElem_cons_zero, Act.put, List.setIfInBounds_toArray, List.set_cons_succ, List.set_cons_zero]
  refine wpAnyV_take (i := 9) (v := .bool false) 8 (kept_below wbN) rfl (by kernel_rfl) (by kernel_rfl) (fun _ _ _ h => h) (fun _ h => h) (DoesV.reads (by rfl) fun w9 hS => by go_simp) ?_
  try simp only [List.getElem_toArray, List.getElem_cons_succ, List.getElem_cons_zero, Act.put, List.setIfInBounds_toArray, List.set_cons_succ, List.set_cons_zero]
  refine wpAnyV_take (i := 10) (v := .bool false) 8 (kept_below wbN) rfl (by kernel_rfl) (by kernel_rfl) (fun _ _ _ h => h) (fun _ h => h) (DoesV.reads (by rfl) fun w9 hS => by go_simp) ?_
  try simp only [List.getElem_toArray, List.getElem_cons_succ, List.getElem_cons_zero, Act.put, List.setIfInBounds_toArray, List.set_cons_succ, List.set_cons_zero]
  refine wpAnyV_take (i := 11) (v := .bool false) 8 (kept_below wbN) rfl (by kernel_rfl) (by kernel_rfl) (fun _ _ _ h => h) (fun _ h => h) (DoesV.reads (by rfl) fun w9 hS => by go_simp) ?_
  try simp only [List.getElem_toArray, List.getElem_cons_succ, List.getElem_cons_zero, Act.put, List.setIfInBounds_toArray, List.set_cons_succ, List.set_cons_zero]
  refine wpAnyV_take (i := 12) (v := .int .i64 (putE c)) 8 (kept_below wbN) rfl (by kernel_rfl) (by kernel_rfl) (fun _ _ _ h => h) (fun _ h => h) (DoesV.reads (by rfl) fun w9 hS => by go_simp) ?_
  try simp only [List.getElem_toArray, List.getElem_cons_succ, List.getElem_cons_zero, Act.put, List.setIfInBounds_toArray, List.set_cons_succ, List.set_cons_zero]
  refine wpAnyV_take (i := 13) (v := .int .i64 (putE c)) 8 (kept_below wbN) rfl (by kernel_rfl) (by kernel_rfl) (fun _ _ _ h => h) (fun _ h => h) (DoesV.reads (by rfl) fun w9 hS => by go_simp) ?_
  try simp only [List.getElem_toArray, List.getElem_cons_succ, List.getElem_cons_zero, Act.put, List.setIfInBounds_toArray, List.set_cons_succ, List.set_cons_zero]
  refine wpAnyV_take (i := 14) (v := .bool false) 8 (kept_below wbN) rfl (by kernel_rfl) (by kernel_rfl) (fun _ _ _ h => h) (fun _ h => h) (DoesV.reads (by rfl) fun w9 hS => by go_simp) ?_
  try simp only [List.getElem_toArray, List.getElem_cons_succ, List.getElem_cons_zero, Act.put, List.setIfInBounds_toArray, List.set_cons_succ, List.set_cons_zero]
  refine wpAnyV_take (i := 15) (v := .bool false) 8 (kept_below wbN) rfl (by kernel_rfl) (by kernel_rfl) (fun _ _ _ h => h) (fun _ h => h) (DoesV.reads (by rfl) fun w9 hS => by go_simp) ?_
  try simp only [List.getElem_toArray, List.getElem_cons_succ, List.getElem_cons_zero, Act.put, List.setIfInBounds_toArray, List.set_cons_succ, List.set_cons_zero]
  refine wpAnyV_take (i := 16) (v := .bool false) 8 (kept_below wbN) rfl (by kernel_rfl) (by kernel_rfl) (fun _ _ _ h => h) (fun _ h => h) (DoesV.reads (by rfl) fun w9 hS => by go_simp) ?_
  try simp only [List.getElem_toArray, List.getElem_cons_succ, List.getElem_cons_zero, Act.put, List.setIfInBounds_toArray, List.set_cons_succ, List.set_cons_zero]
  refine wpAnyV_take (i := 17) (v := .agg (calCells zc (.slice Am zc.data.length cm)).toArray) 8 (kept_below wbN) rfl (by kernel_rfl) (by kernel_rfl) (fun _ _ _ h => h) (fun _ h => h) (DoesV.loadC (by rfl) 28 _ rfl gM 0 rfl (calCells zc (.slice Am zc.data.length cm)) (fun w9 hS => At.whole ((CM.out.below KM_11.out CM.out.lt).below hS (CM.out.below KM_11.out CM.out.lt).lt)) _ Tryd.underlying28 rfl infoCall) ?_
  try simp only [List.getElem_toArray, List.getElem_cons_succ, List.getElem_cons_zero, Act.put, List.setIfInBounds_toArray, List.set_cons_succ, List.set_cons_zero]
  refine wpAnyV_take (i := 18) (v := .agg (calCells zc (.slice An zc.data.length cn)).toArray) 8 (kept_below wbN) rfl (by kernel_rfl) (by kernel_rfl) (fun _ _ _ h => h) (fun _ h => h) (DoesV.loadC (by rfl) 28 _ rfl gN 0 rfl (calCells zc (.slice An zc.data.length cn)) (fun w9 hS => At.whole ((CN.out.below (Below.refl _ _) CN.out.lt).below hS (CN.out.below (Below.refl _ _) CN.out.lt).lt)) _ Tryd.underlying28 rfl infoCall) ?_
  try simp only [List.getElem_toArray, List.getElem_cons_succ, List.getElem_cons_zero, Act.put, List.setIfInBounds_toArray, List.set_cons_succ, List.set_cons_zero]
  refine wpAnyV_take (i := 19) (v := .bool true) 8 (kept_below wbN) rfl (by kernel_rfl) (by kernel_rfl) (fun _ _ _ h => h) (fun _ h => h) (DoesV.calls 14 #[.agg (calCells zc (.slice Am zc.data.length cm)).toArray, .agg (calCells zc (.slice An zc.data.length cn)).toArray] (by rfl) (fun w9 hS => by go_simp) (fun w9 hS => (SameR_v ((HVM.out.below Km_11.out).below hS) ((HVN.out.below Kn_11.out).below hS)).mono fun e u h => ⟨by rw [h.1, sameX_self], h.2⟩)) ?_
  try simp only [List.getElem_toArray, List.getElem_cons_succ, List.getElem_cons_zero, Act.put, List.setIfInBounds_toArray, List.set_cons_succ, List.set_cons_zero]
  refine wpAnyV_take (i := 20) (v := .bool false) 8 (kept_below wbN) rfl (by kernel_rfl) (by kernel_rfl) (fun _ _ _ h => h) (fun _ h => h) (DoesV.reads (by rfl) fun w9 hS => by go_simp) ?_
  try simp only [List.getElem_toArray, List.getElem_cons_succ, List.getElem_cons_zero, Act.put, List.setIfInBounds_toArray, List.set_cons_succ, List.set_cons_zero]
  refine wpAnyV_take (i := 21) (v := .bool false) 8 (kept_below wbN) rfl (by kernel_rfl) (by kernel_rfl) (fun _ _ _ h => h) (fun _ h => h) (DoesV.reads (by rfl) fun w9 hS => by go_simp) ?_
  try simp only [List.getElem_toArray, List.getElem_cons_succ, List.getElem_cons_zero, Act.put, List.setIfInBounds_toArray, List.set_cons_succ, List.set_cons_zero]
  refine wpAnyV_take (i := 22) (v := .bool false) 8 (kept_below wbN) rfl (by kernel_rfl) (by kernel_rfl) (fun _ _ _ h => h) (fun _ h => h) (DoesV.reads (by rfl) fun w9 hS => by go_simp) ?_
  try simp only [List.getElem_toArray, List.getElem_cons_succ, List.getElem_cons_zero, Act.put, List.setIfInBounds_toArray, List.set_cons_succ, List.set_cons_zero]
  refine wpAnyV_take (i := 23) (v := .int .i64 ze) 8 (kept_below wbN) rfl (by kernel_rfl) (by kernel_rfl) (fun _ _ _ h => h) (fun _ h => h) (DoesV.reads (by rfl) fun w9 hS => by go_simp) ?_
  try simp only [List.getElem_toArray, List.getElem_cons_succ, List.getElem_cons_zero, Act.put, List.setIfInBounds_toArray, List.set_cons_succ, List.set_cons_zero]
  refine wpAnyV_take (i := 24) (v := .int .i64 ze) 8 (kept_below wbN) rfl (by kernel_rfl) (by kernel_rfl) (fun _ _ _ h => h) (fun _ h => h) (DoesV.reads (by rfl) fun w9 hS => by go_simp) ?_
  try simp only [List.getElem_toArray, List.getElem_cons_succ, List.getElem_cons_zero, Act.put, List.setIfInBounds_toArray, List.set_cons_succ, List.set_cons_zero]
  refine wpAnyV_take (i := 25) (v := .bool false) 8 (kept_below wbN) rfl (by kernel_rfl) (by kernel_rfl) (fun _ _ _ h => h) (fun _ h => h) (DoesV.reads (by rfl) fun w9 hS => by go_simp) ?_
  try simp only [List.getElem_toArray, List.getElem_cons_succ, List.getElem_cons_zero, Act.put, List.setIfInBounds_toArray, List.set_cons_succ, List.set_cons_zero]
  refine wpAnyV_take (i := 26) (v := .bool false) 8 (kept_below wbN) rfl (by kernel_rfl) (by kernel_rfl) (fun _ _ _ h => h) (fun _ h => h) (DoesV.reads (by rfl) fun w9 hS => by go_simp) ?_
  try simp only [List.getElem_toArray, List.getElem_cons_succ, List.getElem_cons_zero, Act.put, List.setIfInBounds_toArray, List.set_cons_succ, List.set_cons_zero]
  refine wpAnyV_done (by kernel_rfl) (fun y hu => ?_) _
  have K0_12 := Lib.hid (below_chain K0_11.out hu)
  have K1_12 := Lib.hid (below_chain K1_11.out hu)
  have K2_12 := Lib.hid (below_chain K2_11.out hu)
  have K6_12 := Lib.hid (below_chain K6_11.out hu)
  have K7_12 := Lib.hid (below_chain K7_11.out hu)
  have K8_12 := Lib.hid (below_chain K8_11.out hu)
  have K9_12 := Lib.hid (below_chain K9_11.out hu)
  have Km_12 := Lib.hid (below_chain Km_11.out hu)
  have KM_12 := Lib.hid (below_chain KM_11.out hu)
  have Kn_12 := Lib.hid (below_chain Kn_11.out hu)
  have KN_12 := Lib.hid (hu)
  clear hu
  go_wp2_with fail
  refine wp_region_V [] (Below y.heap.size y) hmix ((Below.refl _ _).drew) ?_
  change wpAnyV _ _ _ _ _ _ _ _ _
  refine wpAnyV_take (i := 0) (v := .agg (calCells c (.slice A c.data.length cp)).toArray) 8 (kept_below y) rfl (by kernel_rfl) (by kernel_rfl) (fun _ _ _ h => h) (fun _ h => h) (DoesV.loadC (by rfl) 28 _ rfl g1 0 rfl (calCells c (.slice A c.data.length cp)) (fun w9 hS => At.whole ((C1.out.below K1_12.out C1.out.lt).below hS (C1.out.below K1_12.out C1.out.lt).lt)) _ Tryd.underlying28 rfl infoCall) ?_
  try simp only [List.getElem_toArray, List.getElem_cons_succ, List.getElem_cons_zero, Act.put, List.setIfInBounds_toArray, List.set_cons_succ, List.set_cons_zero]
  refine wpAnyV_take (i := 1) (v := .agg (calCells d (.slice Ad d.data.length cpd)).toArray) 8 (kept_below y) rfl (by kernel_rfl) (by kernel_rfl) (fun _ _ _ h => h) (fun _ h => h) (DoesV.loadC (by rfl) 28 _ rfl g2 0 rfl (calCells d (.slice Ad d.data.length cpd)) (fun w9 hS => At.whole ((C2.out.below K2_12.out C2.out.lt).below hS (C2.out.below K2_12.out C2.out.lt).lt)) _ Tryd.underlying28 rfl infoCall) ?_
  try simp only [List.getElem_toArray, List.getElem_cons_succ, List.getElem_cons_zero, Act.put, List.setIfInBounds_toArray, List.set_cons_succ, List.set_cons_zero]
  refine wpAnyV_take (i := 2) (v := .bool (sameX c d)) 8 (kept_below y) rfl (by kernel_rfl) (by kernel_rfl) (fun _ _ _ h => h) (fun _ h => h) (DoesV.calls 15 #[.agg (calCells c (.slice A c.data.length cp)).toArray, .agg (calCells d (.slice Ad d.data.length cpd)).toArray] (by rfl) (fun w9 hS => by go_simp) (fun w9 hS => Same_v ((HCV.out.below K0_12.out).below hS) ((HDV.out.below K0_12.out).below hS))) ?_
  try simp only [List.getElem_toArray, List.getElem_cons_succ, List.getElem_cons_zero, Act.put, List.setIfInBounds_toArray, List.set_cons_succ, List.set_cons_zero]
  refine wpAnyV_take (i := 3) (v := .agg (calCells c (.slice A c.data.length cp)).toArray) 8 (kept_below y) rfl (by kernel_rfl) (by kernel_rfl) (fun _ _ _ h => h) (fun _ h => h) (DoesV.loadC (by rfl) 28 _ rfl g1 0 rfl (calCells c (.slice A c.data.length cp)) (fun w9 hS => At.whole ((C1.out.below K1_12.out C1.out.lt).below hS (C1.out.below K1_12.out C1.out.lt).lt)) _ Tryd.underlying28 rfl infoCall) ?_
  try simp only [List.getElem_toArray, List.getElem_cons_succ, List.getElem_cons_zero, Act.put, List.setIfInBounds_toArray, List.set_cons_succ, List.set_cons_zero]
  refine wpAnyV_take (i := 4) (v := .agg (calCells d (.slice Ad d.data.length cpd)).toArray) 8 (kept_below y) rfl (by kernel_rfl) (by kernel_rfl) (fun _ _ _ h => h) (fun _ h => h) (DoesV.loadC (by rfl) 28 _ rfl g2 0 rfl (calCells d (.slice Ad d.data.length cpd)) (fun w9 hS => At.whole ((C2.out.below K2_12.out C2.out.lt).below hS (C2.out.below K2_12.out C2.out.lt).lt)) _ Tryd.underlying28 rfl infoCall) ?_
  try simp only [List.getElem_toArray, List.getElem_cons_succ, List.getElem_cons_zero, Act.put, List.setIfInBounds_toArray, List.set_cons_succ, List.set_cons_zero]
  refine wpAnyV_take (i := 5) (v := .bool (sameX c d)) 8 (kept_below y) rfl (by kernel_rfl) (by kernel_rfl) (fun _ _ _ h => h) (fun _ h => h) (DoesV.calls 14 #[.agg (calCells c (.slice A c.data.length cp)).toArray, .agg (calCells d (.slice Ad d.data.length cpd)).toArray] (by rfl) (fun w9 hS => by go_simp) (fun w9 hS => SameR_v ((HCV.out.below K0_12.out).below hS) ((HDV.out.below K0_12.out).below hS))) ?_
  try simp only [List.getElem_toArray, List.getElem_cons_succ, List.getElem_cons_zero, Act.put, List.setIfInBounds_toArray, List.set_cons_succ, List.set_cons_zero]
  refine wpAnyV_take (i := 6) (v := .bool true) 8 (kept_below y) rfl (by kernel_rfl) (by kernel_rfl) (fun _ _ _ h => h) (fun _ h => h) (DoesV.reads (by rfl) fun w9 hS => by go_simp) ?_
  try simp only [List.getElem_toArray, List.getElem_cons_succ, List.getElem_cons_zero, Act.put, List.setIfInBounds_toArray, List.set_cons_succ, List.set_cons_zero]
  refine wpAnyV_take (i := 7) (v := .bool true) 8 (kept_below y) rfl (by kernel_rfl) (by kernel_rfl) (fun _ _ _ h => h) (fun _ h => h) (DoesV.reads (by rfl) fun w9 hS => by go_simp) ?_
  try simp only [List.getElem_toArray, List.getElem_cons_succ, List.getElem_cons_zero, Act.put, List.setIfInBounds_toArray, List.set_cons_succ, List.set_cons_zero]
  refine wpAnyV_take (i := 8) (v := .agg (calCells c (.slice A c.data.length cp)).toArray) 8 (kept_below y) rfl (by kernel_rfl) (by kernel_rfl) (fun _ _ _ h => h) (fun _ h => h) (DoesV.loadC (by rfl) 28 _ rfl g1 0 rfl (calCells c (.slice A c.data.length cp)) (fun w9 hS => At.whole ((C1.out.below K1_12.out C1.out.lt).below hS (C1.out.below K1_12.out C1.out.lt).lt)) _ Tryd.underlying28 rfl infoCall) ?_
  try simp only [List.getElem_toArray, List.getElem_cons_succ, List.getElem_cons_zero, Act.put, List.setIfInBounds_toArray, List.set_cons_succ, List.set_cons_zero]
  refine wpAnyV_take (i := 9) (v := .agg (calCells c (.slice (some ⟨go, 0, none⟩) c.data.length capo)).toArray) 8 (kept_below y) rfl (by kernel_rfl) (by kernel_rfl) (fun _ _ _ h => h) (fun _ h => h) (DoesV.loadC (by rfl) 28 _ rfl g3 0 rfl (calCells c (.slice (some ⟨go, 0, none⟩) c.data.length capo)) (fun w9 hS => At.whole ((HC6.out.below K6_12.out HC6.out.lt).below hS (HC6.out.below K6_12.out HC6.out.lt).lt)) _ Tryd.underlying28 rfl infoCall) ?_
  try simp only [List.getElem_toArray, List.getElem_cons_succ, List.getElem_cons_zero, Act.put, List.setIfInBounds_toArray, List.set_cons_succ, List.set_cons_zero]
  refine wpAnyV_take (i := 10) (v := .bool true) 8 (kept_below y) rfl (by kernel_rfl) (by kernel_rfl) (fun _ _ _ h => h) (fun _ h => h) (DoesV.calls 15 #[.agg (calCells c (.slice A c.data.length cp)).toArray, .agg (calCells c (.slice (some ⟨go, 0, none⟩) c.data.length capo)).toArray] (by rfl) (fun w9 hS => by go_simp) (fun w9 hS => (Same_v ((HCV.out.below K0_12.out).below hS) ((HCO.out.below K6_12.out).below hS)).mono fun e u h => ⟨by rw [h.1, sameX_self], h.2⟩)) ?_
  try simp only [List.getElem_toArray, List.getElem_cons_succ, List.getElem_cons_zero, Act.put, List.setIfInBounds_toArray, List.set_cons_succ, List.set_cons_zero]
  refine wpAnyV_take (i := 11) (v := .bool true) 8 (kept_below y) rfl (by kernel_rfl) (by kernel_rfl) (fun _ _ _ h => h) (fun _ h => h) (DoesV.reads (by rfl) fun w9 hS => by go_simp) ?_
  try simp only [List.getElem_toArray, List.getElem_cons_succ, List.getElem_cons_zero, Act.put, List.setIfInBounds_toArray, List.set_cons_succ, List.set_cons_zero]
  refine wpAnyV_take (i := 12) (v := .bool true) 8 (kept_below y) rfl (by kernel_rfl) (by kernel_rfl) (fun _ _ _ h => h) (fun _ h => h) (DoesV.reads (by rfl) fun w9 hS => by go_simp) ?_
  try simp only [List.getElem_toArray, List.getElem_cons_succ, List.getElem_cons_zero, Act.put, List.setIfInBounds_toArray, List.set_cons_succ, List.set_cons_zero]
  refine wpAnyV_take (i := 13) (v := .pointer (some ⟨g1, 3, none⟩)) 8 (kept_below y) rfl (by kernel_rfl) (by kernel_rfl) (fun _ _ _ h => h) (fun _ h => h) (DoesV.reads (by rfl) fun w9 hS => by go_simp) ?_
  try simp only [List.getElem_toArray, List.getElem_cons_succ, List.getElem_cons_zero, Act.put, List.setIfInBounds_toArray, List.set_cons_succ, List.set_cons_zero]
  have k3 : y.cell? ⟨g1, 3, none⟩ = some (.int .u8 (c.kind : Int)) := (C1.out.below K1_12.out C1.out.lt).cell 3 rfl
  have k12 : y.cell? ⟨g1, 12, none⟩ = some (.slice A c.data.length cp) := (C1.out.below K1_12.out C1.out.lt).cell 12 rfl
  have o12 : y.cell? ⟨g3, 12, none⟩ = some (.slice (some ⟨go, 0, none⟩) c.data.length capo) := (HC6.out.below K6_12.out HC6.out.lt).cell 12 rfl
  refine wpAnyV_take (i := 14) (v := .int .u8 (c.kind : Int)) 8 (kept_below y) rfl (by kernel_rfl) (by kernel_rfl) (fun _ _ _ h => h) (fun _ h => h) (DoesV.reads (by rfl) fun w9 hS => by have q0 := cell_b hS k3; go_simp) ?_
  try simp only [List.getElem_toArray, List.getElem_cons_succ, List.getElem_cons_zero, Act.put, List.setIfInBounds_toArray, List.set_cons_succ, List.set_cons_zero]
  refine wpAnyV_take (i := 15) (v := .bool (changesX c.kind)) 8 (kept_below y) rfl (by kernel_rfl) (by kernel_rfl) (fun _ _ _ h => h) (fun _ h => h) (DoesV.calls 16 #[.int .u8 (c.kind : Int)] (by rfl) (fun w9 hS => by go_simp) (fun w9 hS => (Changes_v c.kind HCV.out.2.2.2.2.1 w9).mono fun e u h => ⟨h.1, h.2 ▸ Below.refl _ _⟩)) ?_
  try simp only [List.getElem_toArray, List.getElem_cons_succ, List.getElem_cons_zero, Act.put, List.setIfInBounds_toArray, List.set_cons_succ, List.set_cons_zero]
  refine wpAnyV_take (i := 16) (v := .pointer (some ⟨g1, 3, none⟩)) 8 (kept_below y) rfl (by kernel_rfl) (by kernel_rfl) (fun _ _ _ h => h) (fun _ h => h) (DoesV.reads (by rfl) fun w9 hS => by go_simp) ?_
  try simp only [List.getElem_toArray, List.getElem_cons_succ, List.getElem_cons_zero, Act.put, List.setIfInBounds_toArray, List.set_cons_succ, List.set_cons_zero]
  refine wpAnyV_take (i := 17) (v := .int .u8 (c.kind : Int)) 8 (kept_below y) rfl (by kernel_rfl) (by kernel_rfl) (fun _ _ _ h => h) (fun _ h => h) (DoesV.reads (by rfl) fun w9 hS => by have q0 := cell_b hS k3; go_simp) ?_
  try simp only [List.getElem_toArray, List.getElem_cons_succ, List.getElem_cons_zero, Act.put, List.setIfInBounds_toArray, List.set_cons_succ, List.set_cons_zero]
  refine wpAnyV_take (i := 18) (v := .bool (changesX c.kind)) 8 (kept_below y) rfl (by kernel_rfl) (by kernel_rfl) (fun _ _ _ h => h) (fun _ h => h) (DoesV.calls 17 #[.int .u8 (c.kind : Int)] (by rfl) (fun w9 hS => by go_simp) (fun w9 hS => (ChangesR c.kind HCV.out.2.2.2.2.1 w9).mono fun e u h => ⟨h.1, h.2 ▸ Below.refl _ _⟩)) ?_
  try simp only [List.getElem_toArray, List.getElem_cons_succ, List.getElem_cons_zero, Act.put, List.setIfInBounds_toArray, List.set_cons_succ, List.set_cons_zero]
  refine wpAnyV_take (i := 19) (v := .bool true) 8 (kept_below y) rfl (by kernel_rfl) (by kernel_rfl) (fun _ _ _ h => h) (fun _ h => h) (DoesV.reads (by rfl) fun w9 hS => by go_simp) ?_
  try simp only [List.getElem_toArray, List.getElem_cons_succ, List.getElem_cons_zero, Act.put, List.setIfInBounds_toArray, List.set_cons_succ, List.set_cons_zero]
  refine wpAnyV_take (i := 20) (v := .bool true) 8 (kept_below y) rfl (by kernel_rfl) (by kernel_rfl) (fun _ _ _ h => h) (fun _ h => h) (DoesV.reads (by rfl) fun w9 hS => by go_simp) ?_
  try simp only [List.getElem_toArray, List.getElem_cons_succ, List.getElem_cons_zero, Act.put, List.setIfInBounds_toArray, List.set_cons_succ, List.set_cons_zero]
  refine wpAnyV_take (i := 21) (v := .bool true) 8 (kept_below y) rfl (by kernel_rfl) (by kernel_rfl) (fun _ _ _ h => h) (fun _ h => h) (DoesV.reads (by rfl) fun w9 hS => by go_simp) ?_
  try simp only [List.getElem_toArray, List.getElem_cons_succ, List.getElem_cons_zero, Act.put, List.setIfInBounds_toArray, List.set_cons_succ, List.set_cons_zero]
  refine wpAnyV_take (i := 22) (v := .pointer (some ⟨g3, 12, none⟩)) 8 (kept_below y) rfl (by kernel_rfl) (by kernel_rfl) (fun _ _ _ h => h) (fun _ h => h) (DoesV.reads (by rfl) fun w9 hS => by go_simp) ?_
  try simp only [List.getElem_toArray, List.getElem_cons_succ, List.getElem_cons_zero, Act.put, List.setIfInBounds_toArray, List.set_cons_succ, List.set_cons_zero]
  refine wpAnyV_take (i := 23) (v := .slice (some ⟨go, 0, none⟩) c.data.length capo) 8 (kept_below y) rfl (by kernel_rfl) (by kernel_rfl) (fun _ _ _ h => h) (fun _ h => h) (DoesV.reads (by rfl) fun w9 hS => by have q0 := cell_b hS o12; go_simp) ?_
  try simp only [List.getElem_toArray, List.getElem_cons_succ, List.getElem_cons_zero, Act.put, List.setIfInBounds_toArray, List.set_cons_succ, List.set_cons_zero]
  refine wpAnyV_take (i := 24) (v := .pointer (some ⟨g1, 12, none⟩)) 8 (kept_below y) rfl (by kernel_rfl) (by kernel_rfl) (fun _ _ _ h => h) (fun _ h => h) (DoesV.reads (by rfl) fun w9 hS => by go_simp) ?_
  try simp only [List.getElem_toArray, List.getElem_cons_succ, List.getElem_cons_zero, Act.put, List.setIfInBounds_toArray, List.set_cons_succ, List.set_cons_zero]
  refine wpAnyV_take (i := 25) (v := .slice A c.data.length cp) 8 (kept_below y) rfl (by kernel_rfl) (by kernel_rfl) (fun _ _ _ h => h) (fun _ h => h) (DoesV.reads (by rfl) fun w9 hS => by have q0 := cell_b hS k12; go_simp) ?_
  try simp only [List.getElem_toArray, List.getElem_cons_succ, List.getElem_cons_zero, Act.put, List.setIfInBounds_toArray, List.set_cons_succ, List.set_cons_zero]
  refine wpAnyV_take (i := 26) (v := .bool true) 8 (kept_below y) rfl (by kernel_rfl) (by kernel_rfl) (fun _ _ _ h => h) (fun _ h => h) (DoesV.calls 18 #[.slice (some ⟨go, 0, none⟩) c.data.length capo, .slice A c.data.length cp] (by rfl) (fun w9 hS => by go_simp) (fun w9 hS => (Left_any c.data A cp go capo w9 HO.out.1 HO.out.2.1 ((HR6.out.below K6_12.out).below hS) (((HCV.out.1.below K0_12.out).below hS).rdC)).mono fun e u h => ⟨h.1, h.2 ▸ Below.refl _ _⟩)) ?_
  try simp only [List.getElem_toArray, List.getElem_cons_succ, List.getElem_cons_zero, Act.put, List.setIfInBounds_toArray, List.set_cons_succ, List.set_cons_zero]
  refine wpAnyV_take (i := 27) (v := .bool true) 8 (kept_below y) rfl (by kernel_rfl) (by kernel_rfl) (fun _ _ _ h => h) (fun _ h => h) (DoesV.reads (by rfl) fun w9 hS => by go_simp) ?_
  try simp only [List.getElem_toArray, List.getElem_cons_succ, List.getElem_cons_zero, Act.put, List.setIfInBounds_toArray, List.set_cons_succ, List.set_cons_zero]
  refine wpAnyV_take (i := 28) (v := .bool true) 8 (kept_below y) rfl (by kernel_rfl) (by kernel_rfl) (fun _ _ _ h => h) (fun _ h => h) (DoesV.reads (by rfl) fun w9 hS => by go_simp) ?_
  try simp only [List.getElem_toArray, List.getElem_cons_succ, List.getElem_cons_zero, Act.put, List.setIfInBounds_toArray, List.set_cons_succ, List.set_cons_zero]
  refine wpAnyV_take (i := 29) (v := .slice (some ⟨gb, 0, none⟩) l2.length capb) 8 (kept_below y) rfl (by kernel_rfl) (by kernel_rfl) (fun _ _ _ h => h) (fun _ h => h) (DoesV.reads (by rfl) fun w9 hS => by go_simp) ?_
  try simp only [List.getElem_toArray, List.getElem_cons_succ, List.getElem_cons_zero, Act.put, List.setIfInBounds_toArray, List.set_cons_succ, List.set_cons_zero]
  refine wpAnyV_take (i := 30) (v := .slice A2 l2.length c2) 8 (kept_below y) rfl (by kernel_rfl) (by kernel_rfl) (fun _ _ _ h => h) (fun _ h => h) (DoesV.reads (by rfl) fun w9 hS => by go_simp) ?_
  try simp only [List.getElem_toArray, List.getElem_cons_succ, List.getElem_cons_zero, Act.put, List.setIfInBounds_toArray, List.set_cons_succ, List.set_cons_zero]
  refine wpAnyV_take (i := 31) (v := .bool true) 8 (kept_below y) rfl (by kernel_rfl) (by kernel_rfl) (fun _ _ _ h => h) (fun _ h => h) (DoesV.calls 18 #[.slice (some ⟨gb, 0, none⟩) l2.length capb, .slice A2 l2.length c2] (by rfl) (fun w9 hS => by go_simp) (fun w9 hS => (Left_any l2 A2 c2 gb capb w9 HB7.out.1 HB7.out.2 ((HRB.out.below K7_12.out).below hS) (((HV2.out.below K0_12.out).below hS).rdC)).mono fun e u h => ⟨h.1, h.2 ▸ Below.refl _ _⟩)) ?_
  try simp only [List.getElem_toArray, List.getElem_cons_succ, List.getElem_cons_zero, Act.put, List.setIfInBounds_toArray, List.set_cons_succ, List.set_cons_zero]
  refine wpAnyV_take (i := 32) (v := .bool true) 8 (kept_below y) rfl (by kernel_rfl) (by kernel_rfl) (fun _ _ _ h => h) (fun _ h => h) (DoesV.reads (by rfl) fun w9 hS => by go_simp) ?_
  try simp only [List.getElem_toArray, List.getElem_cons_succ, List.getElem_cons_zero, Act.put, List.setIfInBounds_toArray, List.set_cons_succ, List.set_cons_zero]
  refine wpAnyV_take (i := 33) (v := .bool true) 8 (kept_below y) rfl (by kernel_rfl) (by kernel_rfl) (fun _ _ _ h => h) (fun _ h => h) (DoesV.reads (by rfl) fun w9 hS => by go_simp) ?_
  try simp only [List.getElem_toArray, List.getElem_cons_succ, List.getElem_cons_zero, Act.put, List.setIfInBounds_toArray, List.set_cons_succ, List.set_cons_zero]
  refine wpAnyV_take (i := 34) (v := .bool true) 8 (kept_below y) rfl (by kernel_rfl) (by kernel_rfl) (fun _ _ _ h => h) (fun _ h => h) (DoesV.calls 19 #[] (by rfl) (fun w9 hS => by go_simp) (fun w9 hS => lives10_v w9 ((HT.out.below K0_12.out).below hS))) ?_
  try simp only [List.getElem_toArray, List.getElem_cons_succ, List.getElem_cons_zero, Act.put, List.setIfInBounds_toArray, List.set_cons_succ, List.set_cons_zero]
  refine wpAnyV_take (i := 35) (v := .bool true) 8 (kept_below y) rfl (by kernel_rfl) (by kernel_rfl) (fun _ _ _ h => h) (fun _ h => h) (DoesV.reads (by rfl) fun w9 hS => by go_simp) ?_
  try simp only [List.getElem_toArray, List.getElem_cons_succ, List.getElem_cons_zero, Act.put, List.setIfInBounds_toArray, List.set_cons_succ, List.set_cons_zero]
  refine wpAnyV_take (i := 36) (v := .bool true) 8 (kept_below y) rfl (by kernel_rfl) (by kernel_rfl) (fun _ _ _ h => h) (fun _ h => h) (DoesV.reads (by rfl) fun w9 hS => by go_simp) ?_
  try simp only [List.getElem_toArray, List.getElem_cons_succ, List.getElem_cons_zero, Act.put, List.setIfInBounds_toArray, List.set_cons_succ, List.set_cons_zero]
  refine wpAnyV_done (by kernel_rfl) (fun x hu => ?_) _
  have K0_13 := Lib.hid (below_chain K0_12.out hu)
  have K1_13 := Lib.hid (below_chain K1_12.out hu)
  have K2_13 := Lib.hid (below_chain K2_12.out hu)
  have K6_13 := Lib.hid (below_chain K6_12.out hu)
  have K7_13 := Lib.hid (below_chain K7_12.out hu)
  have K8_13 := Lib.hid (below_chain K8_12.out hu)
  have K9_13 := Lib.hid (below_chain K9_12.out hu)
  have Km_13 := Lib.hid (below_chain Km_12.out hu)
  have KM_13 := Lib.hid (below_chain KM_12.out hu)
  have Kn_13 := Lib.hid (below_chain Kn_12.out hu)
  have KN_13 := Lib.hid (below_chain KN_12.out hu)
  clear hu
  go_wp2_with fail
  go_ret
  exact ⟨rfl, K0_13.out⟩

end Go.Proofs.YthfaemcpheecfaaDoor
