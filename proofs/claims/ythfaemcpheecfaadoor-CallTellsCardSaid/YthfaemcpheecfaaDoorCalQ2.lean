/- The reference: the bytes of a call. -/
import Derived.Test.YthfaemcpheecfaaDoorCal7
import Derived.Test.YthfaemcpheecfaaDoorCalQ1
namespace Go.Proofs.YthfaemcpheecfaaDoor
open Go.RowKit Go.Shelf
set_option linter.unusedVariables false
set_option maxRecDepth 100000
set_option linter.unusedSimpArgs false

/-- what the reference's Put answers -/
def PutR (c : CallX) (w : World) (e : Ending) (w' : World) : Prop :=
  (mayX c = false ∧ e = .returned (.tuple #[.slice none 0 0, .int .i64 2]) ∧ Below w.heap.size w w') ∨
  (mayX c = true ∧ ∃ v, e = .returned (.tuple #[v, .int .i64 0]) ∧ BsV w' (w.heap.size ≤ ·) v (putX c) ∧ Below w.heap.size w w')
set_option maxHeartbeats 16000000 in
theorem putR_1 (c1 c2 c3 c5 c6 : Nat) (c7 : ByteArray) (c8 c9 : Nat) (c10 : ByteArray) (c11 c12 : Nat) (c13 : List UInt8) {F : Nat → Prop} {A : Option Addr} {cp : Nat} {w : World} (h : CalV w F (CX c1 c2 c3 1 c5 c6 c7 c8 c9 c10 c11 c12 c13) (.slice A c13.length cp)) (hm : mayX (CX c1 c2 c3 1 c5 c6 c7 c8 c9 c10 c11 c12 c13) = true) : Calls Tryd.prog 8 #[.agg (calCells (CX c1 c2 c3 1 c5 c6 c7 c8 c9 c10 c11 c12 c13) (.slice A c13.length cp)).toArray] w fun e w' => ∃ v, e = .returned (.tuple #[v, .int .i64 0]) ∧ BsV w' (w.heap.size ≤ ·) v (beL (c1 : Int) 4 ++ beL (c2 : Int) 4 ++ beL (c3 : Int) 8 ++ beL ((1 : Nat) : Int) 4 ++ beL (c5 : Int) 4 ++ beL (c6 : Int) 4) ∧ Below w.heap.size w w' := by
  have HM := Lib.hid fun u (hb : Below w.heap.size w u) => MayR_v (h.below hb)
  rw [hm] at HM
  obtain ⟨-, f1, f2, f3⟩ := mayX_fit hm
  dsimp only [CX] at f1 f2 f3
  obtain ⟨o1, o2, o3, o4, o5, o6, o7, o8, o9, o10⟩ := h.2
  dsimp only [CX] at o1 o2 o3 o4 o5 o6 o7 o8 o9 o10
  have hrd := h.1.rdC
  have hnil : A = none → c13 = [] ∧ cp = 0 := by obtain ⟨A', c', e, -, e2, -⟩ := h.1; cases e; exact e2
  have HD := Lib.hid hrd
  have HNIL := Lib.hid hnil
  have HFIT := Lib.hid (And.intro f1 (And.intro f2 f3))
  have i1 : (c1 : Int) ≤ 255 := by omega
  have HO := Lib.hid (And.intro o1 (And.intro o2 (And.intro o3 (And.intro o5 (And.intro o6 (And.intro o7 (And.intro o8 (And.intro o9 o10))))))))
  clear h hm f1 f2 f3 o1 o2 o3 o4 o5 o6 o7 o8 o9 o10 hrd hnil
  generalize hA : calCells (CX c1 c2 c3 1 c5 c6 c7 c8 c9 c10 c11 c12 c13) (.slice A c13.length cp) = cs at *
  have HA := Lib.hid hA
  have hlen : cs.length = 13 := by rw [← hA]; rfl
  have HLEN := Lib.hid hlen
  clear hA hlen
  go_enter Tryd.func8, Tryd.ntmps8
  go_wp2_with (first
    | ((with_reducible show wpList _ _ _ _ _ w); refine wpList_boxS rfl 28 _ rfl cs rfl ?_; intro g1 w1 hk1 hb1 hg1; go_frame; have C1 := Lib.hid hk1; have B1 := Lib.hid hb1; have G1 := Lib.hid hg1; clear hk1 hb1 hg1)
    | ((with_reducible show wpList _ _ _ _ _ w1); refine wpList_loadS rfl 28 _ rfl g1 rfl cs C1.out _ Tryd.underlying28 rfl (by rw [HLEN.out]; exact infoCall) ?_; go_frame)
    | fail)
  refine (HM.out _ B1.out).mono ?_
  rintro e w2 ⟨rfl, hb⟩
  have hc := C1.out.below hb C1.out.lt
  rw [← HA.out] at hc
  obtain ⟨p0, p1, p2, p3, p4, p5, p6, p7, p8, p9, p10, p11, p12⟩ := Cs.calX hc
  have C2 := Lib.hid hc
  have B2 := Lib.hid (below_chain B1.out hb)
  clear hc hb
  go_wp2_with fail
  clear p0 p1 p2 p3 p4 p5 p6 p7 p8 p9 p10 p11 p12
  refine (qNumber c1 (by have := HO.out.1; omega) _).mono ?_
  rintro e w3 ⟨u3, rfl, hox, hb⟩
  obtain ⟨A3, N3, n3, rfl, -⟩ := own_slice hox
  have hs : AppS w2 (.slice A3 N3 n3) (beL (c1 : Int) 4) w3 := AppS.start hox hb
  obtain ⟨p0, p1, p2, p3, p4, p5, p6, p7, p8, p9, p10, p11, p12⟩ := Cs.calX (C2.out.below hb C2.out.lt)
  have S3 := Lib.hid hs
  clear hox hb hs
  go_wp2_with fail
  clear p0 p1 p2 p3 p4 p5 p6 p7 p8 p9 p10 p11 p12
  refine (qNumber c2 HO.out.2.1 _).mono ?_
  rintro e w4 ⟨u4, rfl, hox, hb⟩
  obtain ⟨Ax4, cx4, rfl, hrx, hAx⟩ := own_len hox rfl
  have hs := S3.out.below hb
  have S4 := Lib.hid hs
  have HRX := Lib.hid hrx
  have HAX := Lib.hid hAx
  clear hox hb hrx hAx hs
  go_wp2_with (at_builtin; refine append_to rfl (.tmp 12) (.tmp 15) rfl w2.heap.size _ _ _ rfl S4.out.1 Ax4 (beL (c2 : Int) 4) _ cx4 rfl rfl HRX.out HAX.out (by (try simp only [List.length_append, beL_length, bytesX_length]); have := padN_lt c13.length; have := padN_lt (L c7).length; have := padN_lt (L c10).length; obtain ⟨f1, f2, f3⟩ := HFIT.out; omega) S4.out.2.size ?_; intro v5 w5 ho hg hto; obtain ⟨A5, N5, n5, rfl, -⟩ := own_slice ho; have S5 := Lib.hid (S4.out.app ho hg); clear ho hg hto; obtain ⟨p0, p1, p2, p3, p4, p5, p6, p7, p8, p9, p10, p11, p12⟩ := Cs.calX (C2.out.below S5.out.2 C2.out.lt))
  clear p0 p1 p2 p3 p4 p5 p6 p7 p8 p9 p10 p11 p12
  refine (qGreat c3 HO.out.2.2.1 _).mono ?_
  rintro e w6 ⟨u6, rfl, hox, hb⟩
  obtain ⟨Ax6, cx6, rfl, hrx, hAx⟩ := own_len hox rfl
  have hs := S5.out.below hb
  have S6 := Lib.hid hs
  have HRX := Lib.hid hrx
  have HAX := Lib.hid hAx
  clear hox hb hrx hAx hs
  go_wp2_with (at_builtin; refine append_to rfl (.tmp 17) (.tmp 20) rfl w2.heap.size _ _ _ rfl S6.out.1 Ax6 (beL (c3 : Int) 8) _ cx6 rfl rfl HRX.out HAX.out (by (try simp only [List.length_append, beL_length, bytesX_length]); have := padN_lt c13.length; have := padN_lt (L c7).length; have := padN_lt (L c10).length; obtain ⟨f1, f2, f3⟩ := HFIT.out; omega) S6.out.2.size ?_; intro v7 w7 ho hg hto; obtain ⟨A7, N7, n7, rfl, -⟩ := own_slice ho; have S7 := Lib.hid (S6.out.app ho hg); clear ho hg hto; obtain ⟨p0, p1, p2, p3, p4, p5, p6, p7, p8, p9, p10, p11, p12⟩ := Cs.calX (C2.out.below S7.out.2 C2.out.lt))
  clear p0 p1 p2 p3 p4 p5 p6 p7 p8 p9 p10 p11 p12
  refine (qNumber 1 (by decide) _).mono ?_
  rintro e w8 ⟨u8, rfl, hox, hb⟩
  obtain ⟨Ax8, cx8, rfl, hrx, hAx⟩ := own_len hox rfl
  have hs := S7.out.below hb
  have S8 := Lib.hid hs
  have HRX := Lib.hid hrx
  have HAX := Lib.hid hAx
  clear hox hb hrx hAx hs
  go_wp2_with (at_builtin; refine append_to rfl (.tmp 22) (.tmp 26) rfl w2.heap.size _ _ _ rfl S8.out.1 Ax8 (beL ((1 : Nat) : Int) 4) _ cx8 rfl rfl HRX.out HAX.out (by (try simp only [List.length_append, beL_length, bytesX_length]); have := padN_lt c13.length; have := padN_lt (L c7).length; have := padN_lt (L c10).length; obtain ⟨f1, f2, f3⟩ := HFIT.out; omega) S8.out.2.size ?_; intro v9 w9 ho hg hto; obtain ⟨A9, N9, n9, rfl, -⟩ := own_slice ho; have S9 := Lib.hid (S8.out.app ho hg); clear ho hg hto; obtain ⟨p0, p1, p2, p3, p4, p5, p6, p7, p8, p9, p10, p11, p12⟩ := Cs.calX (C2.out.below S9.out.2 C2.out.lt))
  clear p0 p1 p2 p3 p4 p5 p6 p7 p8 p9 p10 p11 p12
  refine (handle_q S9.out.1 S9.out.2.size c5 c6 HO.out.2.2.2.1 HO.out.2.2.2.2.1 (by (try simp only [List.length_append, beL_length, bytesX_length]); have := padN_lt c13.length; have := padN_lt (L c7).length; have := padN_lt (L c10).length; obtain ⟨f1, f2, f3⟩ := HFIT.out; omega)).mono ?_
  rintro e w10 ⟨u10, rfl, ho, ht⟩
  obtain ⟨A10, N10, n10, rfl, -⟩ := own_slice ho
  have hs : AppS w2 (.slice A10 N10 n10) (beL (c1 : Int) 4 ++ beL (c2 : Int) 4 ++ beL (c3 : Int) 8 ++ beL ((1 : Nat) : Int) 4 ++ beL (c5 : Int) 4 ++ beL (c6 : Int) 4) w10 := S9.out.turn ho ht
  have S10 := Lib.hid hs
  obtain ⟨p0, p1, p2, p3, p4, p5, p6, p7, p8, p9, p10, p11, p12⟩ := Cs.calX (C2.out.below S10.out.2 C2.out.lt)
  clear hs ho ht
  go_wp2_with fail
  go_ret2
  exact ⟨_, rfl, (BsV.own S10.out.1).mono fun k _ hk => Nat.le_trans B2.out.size hk, B2.out.trans (S10.out.2.mono B2.out.size)⟩
set_option maxHeartbeats 16000000 in
theorem putR_2 (c1 c2 c3 c5 c6 : Nat) (c7 : ByteArray) (c8 c9 : Nat) (c10 : ByteArray) (c11 c12 : Nat) (c13 : List UInt8) {F : Nat → Prop} {A : Option Addr} {cp : Nat} {w : World} (h : CalV w F (CX c1 c2 c3 2 c5 c6 c7 c8 c9 c10 c11 c12 c13) (.slice A c13.length cp)) (hm : mayX (CX c1 c2 c3 2 c5 c6 c7 c8 c9 c10 c11 c12 c13) = true) : Calls Tryd.prog 8 #[.agg (calCells (CX c1 c2 c3 2 c5 c6 c7 c8 c9 c10 c11 c12 c13) (.slice A c13.length cp)).toArray] w fun e w' => ∃ v, e = .returned (.tuple #[v, .int .i64 0]) ∧ BsV w' (w.heap.size ≤ ·) v (beL (c1 : Int) 4 ++ beL (c2 : Int) 4 ++ beL (c3 : Int) 8 ++ beL ((2 : Nat) : Int) 4 ++ beL (c5 : Int) 4 ++ beL (c6 : Int) 4 ++ beL (c12 : Int) 4) ∧ Below w.heap.size w w' := by
  have HM := Lib.hid fun u (hb : Below w.heap.size w u) => MayR_v (h.below hb)
  rw [hm] at HM
  obtain ⟨-, f1, f2, f3⟩ := mayX_fit hm
  dsimp only [CX] at f1 f2 f3
  obtain ⟨o1, o2, o3, o4, o5, o6, o7, o8, o9, o10⟩ := h.2
  dsimp only [CX] at o1 o2 o3 o4 o5 o6 o7 o8 o9 o10
  have hrd := h.1.rdC
  have hnil : A = none → c13 = [] ∧ cp = 0 := by obtain ⟨A', c', e, -, e2, -⟩ := h.1; cases e; exact e2
  have HD := Lib.hid hrd
  have HNIL := Lib.hid hnil
  have HFIT := Lib.hid (And.intro f1 (And.intro f2 f3))
  have i1 : (c1 : Int) ≤ 255 := by omega
  have HO := Lib.hid (And.intro o1 (And.intro o2 (And.intro o3 (And.intro o5 (And.intro o6 (And.intro o7 (And.intro o8 (And.intro o9 o10))))))))
  clear h hm f1 f2 f3 o1 o2 o3 o4 o5 o6 o7 o8 o9 o10 hrd hnil
  generalize hA : calCells (CX c1 c2 c3 2 c5 c6 c7 c8 c9 c10 c11 c12 c13) (.slice A c13.length cp) = cs at *
  have HA := Lib.hid hA
  have hlen : cs.length = 13 := by rw [← hA]; rfl
  have HLEN := Lib.hid hlen
  clear hA hlen
  go_enter Tryd.func8, Tryd.ntmps8
  go_wp2_with (first
    | ((with_reducible show wpList _ _ _ _ _ w); refine wpList_boxS rfl 28 _ rfl cs rfl ?_; intro g1 w1 hk1 hb1 hg1; go_frame; have C1 := Lib.hid hk1; have B1 := Lib.hid hb1; have G1 := Lib.hid hg1; clear hk1 hb1 hg1)
    | ((with_reducible show wpList _ _ _ _ _ w1); refine wpList_loadS rfl 28 _ rfl g1 rfl cs C1.out _ Tryd.underlying28 rfl (by rw [HLEN.out]; exact infoCall) ?_; go_frame)
    | fail)
  refine (HM.out _ B1.out).mono ?_
  rintro e w2 ⟨rfl, hb⟩
  have hc := C1.out.below hb C1.out.lt
  rw [← HA.out] at hc
  obtain ⟨p0, p1, p2, p3, p4, p5, p6, p7, p8, p9, p10, p11, p12⟩ := Cs.calX hc
  have C2 := Lib.hid hc
  have B2 := Lib.hid (below_chain B1.out hb)
  clear hc hb
  go_wp2_with fail
  clear p0 p1 p2 p3 p4 p5 p6 p7 p8 p9 p10 p11 p12
  refine (qNumber c1 (by have := HO.out.1; omega) _).mono ?_
  rintro e w3 ⟨u3, rfl, hox, hb⟩
  obtain ⟨A3, N3, n3, rfl, -⟩ := own_slice hox
  have hs : AppS w2 (.slice A3 N3 n3) (beL (c1 : Int) 4) w3 := AppS.start hox hb
  obtain ⟨p0, p1, p2, p3, p4, p5, p6, p7, p8, p9, p10, p11, p12⟩ := Cs.calX (C2.out.below hb C2.out.lt)
  have S3 := Lib.hid hs
  clear hox hb hs
  go_wp2_with fail
  clear p0 p1 p2 p3 p4 p5 p6 p7 p8 p9 p10 p11 p12
  refine (qNumber c2 HO.out.2.1 _).mono ?_
  rintro e w4 ⟨u4, rfl, hox, hb⟩
  obtain ⟨Ax4, cx4, rfl, hrx, hAx⟩ := own_len hox rfl
  have hs := S3.out.below hb
  have S4 := Lib.hid hs
  have HRX := Lib.hid hrx
  have HAX := Lib.hid hAx
  clear hox hb hrx hAx hs
  go_wp2_with (at_builtin; refine append_to rfl (.tmp 12) (.tmp 15) rfl w2.heap.size _ _ _ rfl S4.out.1 Ax4 (beL (c2 : Int) 4) _ cx4 rfl rfl HRX.out HAX.out (by (try simp only [List.length_append, beL_length, bytesX_length]); have := padN_lt c13.length; have := padN_lt (L c7).length; have := padN_lt (L c10).length; obtain ⟨f1, f2, f3⟩ := HFIT.out; omega) S4.out.2.size ?_; intro v5 w5 ho hg hto; obtain ⟨A5, N5, n5, rfl, -⟩ := own_slice ho; have S5 := Lib.hid (S4.out.app ho hg); clear ho hg hto; obtain ⟨p0, p1, p2, p3, p4, p5, p6, p7, p8, p9, p10, p11, p12⟩ := Cs.calX (C2.out.below S5.out.2 C2.out.lt))
  clear p0 p1 p2 p3 p4 p5 p6 p7 p8 p9 p10 p11 p12
  refine (qGreat c3 HO.out.2.2.1 _).mono ?_
  rintro e w6 ⟨u6, rfl, hox, hb⟩
  obtain ⟨Ax6, cx6, rfl, hrx, hAx⟩ := own_len hox rfl
  have hs := S5.out.below hb
  have S6 := Lib.hid hs
  have HRX := Lib.hid hrx
  have HAX := Lib.hid hAx
  clear hox hb hrx hAx hs
  go_wp2_with (at_builtin; refine append_to rfl (.tmp 17) (.tmp 20) rfl w2.heap.size _ _ _ rfl S6.out.1 Ax6 (beL (c3 : Int) 8) _ cx6 rfl rfl HRX.out HAX.out (by (try simp only [List.length_append, beL_length, bytesX_length]); have := padN_lt c13.length; have := padN_lt (L c7).length; have := padN_lt (L c10).length; obtain ⟨f1, f2, f3⟩ := HFIT.out; omega) S6.out.2.size ?_; intro v7 w7 ho hg hto; obtain ⟨A7, N7, n7, rfl, -⟩ := own_slice ho; have S7 := Lib.hid (S6.out.app ho hg); clear ho hg hto; obtain ⟨p0, p1, p2, p3, p4, p5, p6, p7, p8, p9, p10, p11, p12⟩ := Cs.calX (C2.out.below S7.out.2 C2.out.lt))
  clear p0 p1 p2 p3 p4 p5 p6 p7 p8 p9 p10 p11 p12
  refine (qNumber 2 (by decide) _).mono ?_
  rintro e w8 ⟨u8, rfl, hox, hb⟩
  obtain ⟨Ax8, cx8, rfl, hrx, hAx⟩ := own_len hox rfl
  have hs := S7.out.below hb
  have S8 := Lib.hid hs
  have HRX := Lib.hid hrx
  have HAX := Lib.hid hAx
  clear hox hb hrx hAx hs
  go_wp2_with (at_builtin; refine append_to rfl (.tmp 22) (.tmp 26) rfl w2.heap.size _ _ _ rfl S8.out.1 Ax8 (beL ((2 : Nat) : Int) 4) _ cx8 rfl rfl HRX.out HAX.out (by (try simp only [List.length_append, beL_length, bytesX_length]); have := padN_lt c13.length; have := padN_lt (L c7).length; have := padN_lt (L c10).length; obtain ⟨f1, f2, f3⟩ := HFIT.out; omega) S8.out.2.size ?_; intro v9 w9 ho hg hto; obtain ⟨A9, N9, n9, rfl, -⟩ := own_slice ho; have S9 := Lib.hid (S8.out.app ho hg); clear ho hg hto; obtain ⟨p0, p1, p2, p3, p4, p5, p6, p7, p8, p9, p10, p11, p12⟩ := Cs.calX (C2.out.below S9.out.2 C2.out.lt))
  clear p0 p1 p2 p3 p4 p5 p6 p7 p8 p9 p10 p11 p12
  refine (handle_q S9.out.1 S9.out.2.size c5 c6 HO.out.2.2.2.1 HO.out.2.2.2.2.1 (by (try simp only [List.length_append, beL_length, bytesX_length]); have := padN_lt c13.length; have := padN_lt (L c7).length; have := padN_lt (L c10).length; obtain ⟨f1, f2, f3⟩ := HFIT.out; omega)).mono ?_
  rintro e w10 ⟨u10, rfl, ho, ht⟩
  obtain ⟨A10, N10, n10, rfl, -⟩ := own_slice ho
  have hs : AppS w2 (.slice A10 N10 n10) (beL (c1 : Int) 4 ++ beL (c2 : Int) 4 ++ beL (c3 : Int) 8 ++ beL ((2 : Nat) : Int) 4 ++ beL (c5 : Int) 4 ++ beL (c6 : Int) 4) w10 := S9.out.turn ho ht
  have S10 := Lib.hid hs
  obtain ⟨p0, p1, p2, p3, p4, p5, p6, p7, p8, p9, p10, p11, p12⟩ := Cs.calX (C2.out.below S10.out.2 C2.out.lt)
  clear hs ho ht
  go_wp2_with fail
  clear p0 p1 p2 p3 p4 p5 p6 p7 p8 p9 p10 p11 p12
  refine (qNumber c12 HO.out.2.2.2.2.2.2.2.2 _).mono ?_
  rintro e w11 ⟨u11, rfl, hox, hb⟩
  obtain ⟨Ax11, cx11, rfl, hrx, hAx⟩ := own_len hox rfl
  have hs := S10.out.below hb
  have S11 := Lib.hid hs
  have HRX := Lib.hid hrx
  have HAX := Lib.hid hAx
  clear hox hb hrx hAx hs
  go_wp2_with (at_builtin; refine append_to rfl (.tmp 36) (.tmp 39) rfl w2.heap.size _ _ _ rfl S11.out.1 Ax11 (beL (c12 : Int) 4) _ cx11 rfl rfl HRX.out HAX.out (by (try simp only [List.length_append, beL_length, bytesX_length]); have := padN_lt c13.length; have := padN_lt (L c7).length; have := padN_lt (L c10).length; obtain ⟨f1, f2, f3⟩ := HFIT.out; omega) S11.out.2.size ?_; intro v12 w12 ho hg hto; obtain ⟨A12, N12, n12, rfl, -⟩ := own_slice ho; have S12 := Lib.hid (S11.out.app ho hg); clear ho hg hto; obtain ⟨p0, p1, p2, p3, p4, p5, p6, p7, p8, p9, p10, p11, p12⟩ := Cs.calX (C2.out.below S12.out.2 C2.out.lt))
  go_ret2
  exact ⟨_, rfl, (BsV.own S12.out.1).mono fun k _ hk => Nat.le_trans B2.out.size hk, B2.out.trans (S12.out.2.mono B2.out.size)⟩
set_option maxHeartbeats 16000000 in
theorem putR_3 (c1 c2 c3 c5 c6 : Nat) (c7 : ByteArray) (c8 c9 : Nat) (c10 : ByteArray) (c11 c12 : Nat) (c13 : List UInt8) {F : Nat → Prop} {A : Option Addr} {cp : Nat} {w : World} (h : CalV w F (CX c1 c2 c3 3 c5 c6 c7 c8 c9 c10 c11 c12 c13) (.slice A c13.length cp)) (hm : mayX (CX c1 c2 c3 3 c5 c6 c7 c8 c9 c10 c11 c12 c13) = true) : Calls Tryd.prog 8 #[.agg (calCells (CX c1 c2 c3 3 c5 c6 c7 c8 c9 c10 c11 c12 c13) (.slice A c13.length cp)).toArray] w fun e w' => ∃ v, e = .returned (.tuple #[v, .int .i64 0]) ∧ BsV w' (w.heap.size ≤ ·) v (beL (c1 : Int) 4 ++ beL (c2 : Int) 4 ++ beL (c3 : Int) 8 ++ beL ((3 : Nat) : Int) 4 ++ beL (c5 : Int) 4 ++ beL (c6 : Int) 4 ++ bytesX (L c7)) ∧ Below w.heap.size w w' := by
  have HM := Lib.hid fun u (hb : Below w.heap.size w u) => MayR_v (h.below hb)
  rw [hm] at HM
  obtain ⟨-, f1, f2, f3⟩ := mayX_fit hm
  dsimp only [CX] at f1 f2 f3
  obtain ⟨o1, o2, o3, o4, o5, o6, o7, o8, o9, o10⟩ := h.2
  dsimp only [CX] at o1 o2 o3 o4 o5 o6 o7 o8 o9 o10
  have hrd := h.1.rdC
  have hnil : A = none → c13 = [] ∧ cp = 0 := by obtain ⟨A', c', e, -, e2, -⟩ := h.1; cases e; exact e2
  have HD := Lib.hid hrd
  have HNIL := Lib.hid hnil
  have HFIT := Lib.hid (And.intro f1 (And.intro f2 f3))
  have i1 : (c1 : Int) ≤ 255 := by omega
  have HO := Lib.hid (And.intro o1 (And.intro o2 (And.intro o3 (And.intro o5 (And.intro o6 (And.intro o7 (And.intro o8 (And.intro o9 o10))))))))
  clear h hm f1 f2 f3 o1 o2 o3 o4 o5 o6 o7 o8 o9 o10 hrd hnil
  generalize hA : calCells (CX c1 c2 c3 3 c5 c6 c7 c8 c9 c10 c11 c12 c13) (.slice A c13.length cp) = cs at *
  have HA := Lib.hid hA
  have hlen : cs.length = 13 := by rw [← hA]; rfl
  have HLEN := Lib.hid hlen
  clear hA hlen
  go_enter Tryd.func8, Tryd.ntmps8
  go_wp2_with (first
    | ((with_reducible show wpList _ _ _ _ _ w); refine wpList_boxS rfl 28 _ rfl cs rfl ?_; intro g1 w1 hk1 hb1 hg1; go_frame; have C1 := Lib.hid hk1; have B1 := Lib.hid hb1; have G1 := Lib.hid hg1; clear hk1 hb1 hg1)
    | ((with_reducible show wpList _ _ _ _ _ w1); refine wpList_loadS rfl 28 _ rfl g1 rfl cs C1.out _ Tryd.underlying28 rfl (by rw [HLEN.out]; exact infoCall) ?_; go_frame)
    | fail)
  refine (HM.out _ B1.out).mono ?_
  rintro e w2 ⟨rfl, hb⟩
  have hc := C1.out.below hb C1.out.lt
  rw [← HA.out] at hc
  obtain ⟨p0, p1, p2, p3, p4, p5, p6, p7, p8, p9, p10, p11, p12⟩ := Cs.calX hc
  have C2 := Lib.hid hc
  have B2 := Lib.hid (below_chain B1.out hb)
  clear hc hb
  go_wp2_with fail
  clear p0 p1 p2 p3 p4 p5 p6 p7 p8 p9 p10 p11 p12
  refine (qNumber c1 (by have := HO.out.1; omega) _).mono ?_
  rintro e w3 ⟨u3, rfl, hox, hb⟩
  obtain ⟨A3, N3, n3, rfl, -⟩ := own_slice hox
  have hs : AppS w2 (.slice A3 N3 n3) (beL (c1 : Int) 4) w3 := AppS.start hox hb
  obtain ⟨p0, p1, p2, p3, p4, p5, p6, p7, p8, p9, p10, p11, p12⟩ := Cs.calX (C2.out.below hb C2.out.lt)
  have S3 := Lib.hid hs
  clear hox hb hs
  go_wp2_with fail
  clear p0 p1 p2 p3 p4 p5 p6 p7 p8 p9 p10 p11 p12
  refine (qNumber c2 HO.out.2.1 _).mono ?_
  rintro e w4 ⟨u4, rfl, hox, hb⟩
  obtain ⟨Ax4, cx4, rfl, hrx, hAx⟩ := own_len hox rfl
  have hs := S3.out.below hb
  have S4 := Lib.hid hs
  have HRX := Lib.hid hrx
  have HAX := Lib.hid hAx
  clear hox hb hrx hAx hs
  go_wp2_with (at_builtin; refine append_to rfl (.tmp 12) (.tmp 15) rfl w2.heap.size _ _ _ rfl S4.out.1 Ax4 (beL (c2 : Int) 4) _ cx4 rfl rfl HRX.out HAX.out (by (try simp only [List.length_append, beL_length, bytesX_length]); have := padN_lt c13.length; have := padN_lt (L c7).length; have := padN_lt (L c10).length; obtain ⟨f1, f2, f3⟩ := HFIT.out; omega) S4.out.2.size ?_; intro v5 w5 ho hg hto; obtain ⟨A5, N5, n5, rfl, -⟩ := own_slice ho; have S5 := Lib.hid (S4.out.app ho hg); clear ho hg hto; obtain ⟨p0, p1, p2, p3, p4, p5, p6, p7, p8, p9, p10, p11, p12⟩ := Cs.calX (C2.out.below S5.out.2 C2.out.lt))
  clear p0 p1 p2 p3 p4 p5 p6 p7 p8 p9 p10 p11 p12
  refine (qGreat c3 HO.out.2.2.1 _).mono ?_
  rintro e w6 ⟨u6, rfl, hox, hb⟩
  obtain ⟨Ax6, cx6, rfl, hrx, hAx⟩ := own_len hox rfl
  have hs := S5.out.below hb
  have S6 := Lib.hid hs
  have HRX := Lib.hid hrx
  have HAX := Lib.hid hAx
  clear hox hb hrx hAx hs
  go_wp2_with (at_builtin; refine append_to rfl (.tmp 17) (.tmp 20) rfl w2.heap.size _ _ _ rfl S6.out.1 Ax6 (beL (c3 : Int) 8) _ cx6 rfl rfl HRX.out HAX.out (by (try simp only [List.length_append, beL_length, bytesX_length]); have := padN_lt c13.length; have := padN_lt (L c7).length; have := padN_lt (L c10).length; obtain ⟨f1, f2, f3⟩ := HFIT.out; omega) S6.out.2.size ?_; intro v7 w7 ho hg hto; obtain ⟨A7, N7, n7, rfl, -⟩ := own_slice ho; have S7 := Lib.hid (S6.out.app ho hg); clear ho hg hto; obtain ⟨p0, p1, p2, p3, p4, p5, p6, p7, p8, p9, p10, p11, p12⟩ := Cs.calX (C2.out.below S7.out.2 C2.out.lt))
  clear p0 p1 p2 p3 p4 p5 p6 p7 p8 p9 p10 p11 p12
  refine (qNumber 3 (by decide) _).mono ?_
  rintro e w8 ⟨u8, rfl, hox, hb⟩
  obtain ⟨Ax8, cx8, rfl, hrx, hAx⟩ := own_len hox rfl
  have hs := S7.out.below hb
  have S8 := Lib.hid hs
  have HRX := Lib.hid hrx
  have HAX := Lib.hid hAx
  clear hox hb hrx hAx hs
  go_wp2_with (at_builtin; refine append_to rfl (.tmp 22) (.tmp 26) rfl w2.heap.size _ _ _ rfl S8.out.1 Ax8 (beL ((3 : Nat) : Int) 4) _ cx8 rfl rfl HRX.out HAX.out (by (try simp only [List.length_append, beL_length, bytesX_length]); have := padN_lt c13.length; have := padN_lt (L c7).length; have := padN_lt (L c10).length; obtain ⟨f1, f2, f3⟩ := HFIT.out; omega) S8.out.2.size ?_; intro v9 w9 ho hg hto; obtain ⟨A9, N9, n9, rfl, -⟩ := own_slice ho; have S9 := Lib.hid (S8.out.app ho hg); clear ho hg hto; obtain ⟨p0, p1, p2, p3, p4, p5, p6, p7, p8, p9, p10, p11, p12⟩ := Cs.calX (C2.out.below S9.out.2 C2.out.lt))
  clear p0 p1 p2 p3 p4 p5 p6 p7 p8 p9 p10 p11 p12
  refine (handle_q S9.out.1 S9.out.2.size c5 c6 HO.out.2.2.2.1 HO.out.2.2.2.2.1 (by (try simp only [List.length_append, beL_length, bytesX_length]); have := padN_lt c13.length; have := padN_lt (L c7).length; have := padN_lt (L c10).length; obtain ⟨f1, f2, f3⟩ := HFIT.out; omega)).mono ?_
  rintro e w10 ⟨u10, rfl, ho, ht⟩
  obtain ⟨A10, N10, n10, rfl, -⟩ := own_slice ho
  have hs : AppS w2 (.slice A10 N10 n10) (beL (c1 : Int) 4 ++ beL (c2 : Int) 4 ++ beL (c3 : Int) 8 ++ beL ((3 : Nat) : Int) 4 ++ beL (c5 : Int) 4 ++ beL (c6 : Int) 4) w10 := S9.out.turn ho ht
  have S10 := Lib.hid hs
  obtain ⟨p0, p1, p2, p3, p4, p5, p6, p7, p8, p9, p10, p11, p12⟩ := Cs.calX (C2.out.below S10.out.2 C2.out.lt)
  clear hs ho ht
  obtain ⟨W10, q10, hcv10, hbw, hszw, hbv⟩ := conv_str c7 (by rw [L_size]; obtain ⟨f1, f2, f3⟩ := HFIT.out; omega) w10
  have BW10 := Lib.hid hbw
  have RT10 := Lib.hid hbv.rdC
  clear hbw hszw hbv
  go_wp2_with fail
  clear p0 p1 p2 p3 p4 p5 p6 p7 p8 p9 p10 p11 p12
  refine (qBytes (L c7) (some ⟨w10.heap.size, 0, none⟩) q10 _ (by obtain ⟨f1, f2, f3⟩ := HFIT.out; omega) RT10.out (fun h => by cases h)).mono ?_
  rintro e w11 ⟨u11, rfl, hox, hb⟩
  obtain ⟨Ax11, cx11, rfl, hrx, hAx⟩ := own_len hox rfl
  have hs := (S10.out.below BW10.out).below hb
  have S11 := Lib.hid hs
  have HRX := Lib.hid hrx
  have HAX := Lib.hid hAx
  clear hox hb hrx hAx hs
  go_wp2_with (at_builtin; refine append_to rfl (.tmp 47) (.tmp 51) rfl w2.heap.size _ _ _ rfl S11.out.1 Ax11 (bytesX (L c7)) _ cx11 rfl rfl HRX.out HAX.out (by (try simp only [List.length_append, beL_length, bytesX_length]); have := padN_lt c13.length; have := padN_lt (L c7).length; have := padN_lt (L c10).length; obtain ⟨f1, f2, f3⟩ := HFIT.out; omega) S11.out.2.size ?_; intro v12 w12 ho hg hto; obtain ⟨A12, N12, n12, rfl, -⟩ := own_slice ho; have S12 := Lib.hid (S11.out.app ho hg); clear ho hg hto; obtain ⟨p0, p1, p2, p3, p4, p5, p6, p7, p8, p9, p10, p11, p12⟩ := Cs.calX (C2.out.below S12.out.2 C2.out.lt))
  go_ret2
  exact ⟨_, rfl, (BsV.own S12.out.1).mono fun k _ hk => Nat.le_trans B2.out.size hk, B2.out.trans (S12.out.2.mono B2.out.size)⟩
set_option maxHeartbeats 16000000 in
theorem putR_4 (c1 c2 c3 c5 c6 : Nat) (c7 : ByteArray) (c8 c9 : Nat) (c10 : ByteArray) (c11 c12 : Nat) (c13 : List UInt8) {F : Nat → Prop} {A : Option Addr} {cp : Nat} {w : World} (h : CalV w F (CX c1 c2 c3 4 c5 c6 c7 c8 c9 c10 c11 c12 c13) (.slice A c13.length cp)) (hm : mayX (CX c1 c2 c3 4 c5 c6 c7 c8 c9 c10 c11 c12 c13) = true) : Calls Tryd.prog 8 #[.agg (calCells (CX c1 c2 c3 4 c5 c6 c7 c8 c9 c10 c11 c12 c13) (.slice A c13.length cp)).toArray] w fun e w' => ∃ v, e = .returned (.tuple #[v, .int .i64 0]) ∧ BsV w' (w.heap.size ≤ ·) v (beL (c1 : Int) 4 ++ beL (c2 : Int) 4 ++ beL (c3 : Int) 8 ++ beL ((4 : Nat) : Int) 4 ++ beL (c5 : Int) 4 ++ beL (c6 : Int) 4 ++ beL (c11 : Int) 4 ++ beL (c12 : Int) 4) ∧ Below w.heap.size w w' := by
  have HM := Lib.hid fun u (hb : Below w.heap.size w u) => MayR_v (h.below hb)
  rw [hm] at HM
  obtain ⟨-, f1, f2, f3⟩ := mayX_fit hm
  dsimp only [CX] at f1 f2 f3
  obtain ⟨o1, o2, o3, o4, o5, o6, o7, o8, o9, o10⟩ := h.2
  dsimp only [CX] at o1 o2 o3 o4 o5 o6 o7 o8 o9 o10
  have hrd := h.1.rdC
  have hnil : A = none → c13 = [] ∧ cp = 0 := by obtain ⟨A', c', e, -, e2, -⟩ := h.1; cases e; exact e2
  have HD := Lib.hid hrd
  have HNIL := Lib.hid hnil
  have HFIT := Lib.hid (And.intro f1 (And.intro f2 f3))
  have i1 : (c1 : Int) ≤ 255 := by omega
  have HO := Lib.hid (And.intro o1 (And.intro o2 (And.intro o3 (And.intro o5 (And.intro o6 (And.intro o7 (And.intro o8 (And.intro o9 o10))))))))
  clear h hm f1 f2 f3 o1 o2 o3 o4 o5 o6 o7 o8 o9 o10 hrd hnil
  generalize hA : calCells (CX c1 c2 c3 4 c5 c6 c7 c8 c9 c10 c11 c12 c13) (.slice A c13.length cp) = cs at *
  have HA := Lib.hid hA
  have hlen : cs.length = 13 := by rw [← hA]; rfl
  have HLEN := Lib.hid hlen
  clear hA hlen
  go_enter Tryd.func8, Tryd.ntmps8
  go_wp2_with (first
    | ((with_reducible show wpList _ _ _ _ _ w); refine wpList_boxS rfl 28 _ rfl cs rfl ?_; intro g1 w1 hk1 hb1 hg1; go_frame; have C1 := Lib.hid hk1; have B1 := Lib.hid hb1; have G1 := Lib.hid hg1; clear hk1 hb1 hg1)
    | ((with_reducible show wpList _ _ _ _ _ w1); refine wpList_loadS rfl 28 _ rfl g1 rfl cs C1.out _ Tryd.underlying28 rfl (by rw [HLEN.out]; exact infoCall) ?_; go_frame)
    | fail)
  refine (HM.out _ B1.out).mono ?_
  rintro e w2 ⟨rfl, hb⟩
  have hc := C1.out.below hb C1.out.lt
  rw [← HA.out] at hc
  obtain ⟨p0, p1, p2, p3, p4, p5, p6, p7, p8, p9, p10, p11, p12⟩ := Cs.calX hc
  have C2 := Lib.hid hc
  have B2 := Lib.hid (below_chain B1.out hb)
  clear hc hb
  go_wp2_with fail
  clear p0 p1 p2 p3 p4 p5 p6 p7 p8 p9 p10 p11 p12
  refine (qNumber c1 (by have := HO.out.1; omega) _).mono ?_
  rintro e w3 ⟨u3, rfl, hox, hb⟩
  obtain ⟨A3, N3, n3, rfl, -⟩ := own_slice hox
  have hs : AppS w2 (.slice A3 N3 n3) (beL (c1 : Int) 4) w3 := AppS.start hox hb
  obtain ⟨p0, p1, p2, p3, p4, p5, p6, p7, p8, p9, p10, p11, p12⟩ := Cs.calX (C2.out.below hb C2.out.lt)
  have S3 := Lib.hid hs
  clear hox hb hs
  go_wp2_with fail
  clear p0 p1 p2 p3 p4 p5 p6 p7 p8 p9 p10 p11 p12
  refine (qNumber c2 HO.out.2.1 _).mono ?_
  rintro e w4 ⟨u4, rfl, hox, hb⟩
  obtain ⟨Ax4, cx4, rfl, hrx, hAx⟩ := own_len hox rfl
  have hs := S3.out.below hb
  have S4 := Lib.hid hs
  have HRX := Lib.hid hrx
  have HAX := Lib.hid hAx
  clear hox hb hrx hAx hs
  go_wp2_with (at_builtin; refine append_to rfl (.tmp 12) (.tmp 15) rfl w2.heap.size _ _ _ rfl S4.out.1 Ax4 (beL (c2 : Int) 4) _ cx4 rfl rfl HRX.out HAX.out (by (try simp only [List.length_append, beL_length, bytesX_length]); have := padN_lt c13.length; have := padN_lt (L c7).length; have := padN_lt (L c10).length; obtain ⟨f1, f2, f3⟩ := HFIT.out; omega) S4.out.2.size ?_; intro v5 w5 ho hg hto; obtain ⟨A5, N5, n5, rfl, -⟩ := own_slice ho; have S5 := Lib.hid (S4.out.app ho hg); clear ho hg hto; obtain ⟨p0, p1, p2, p3, p4, p5, p6, p7, p8, p9, p10, p11, p12⟩ := Cs.calX (C2.out.below S5.out.2 C2.out.lt))
  clear p0 p1 p2 p3 p4 p5 p6 p7 p8 p9 p10 p11 p12
  refine (qGreat c3 HO.out.2.2.1 _).mono ?_
  rintro e w6 ⟨u6, rfl, hox, hb⟩
  obtain ⟨Ax6, cx6, rfl, hrx, hAx⟩ := own_len hox rfl
  have hs := S5.out.below hb
  have S6 := Lib.hid hs
  have HRX := Lib.hid hrx
  have HAX := Lib.hid hAx
  clear hox hb hrx hAx hs
  go_wp2_with (at_builtin; refine append_to rfl (.tmp 17) (.tmp 20) rfl w2.heap.size _ _ _ rfl S6.out.1 Ax6 (beL (c3 : Int) 8) _ cx6 rfl rfl HRX.out HAX.out (by (try simp only [List.length_append, beL_length, bytesX_length]); have := padN_lt c13.length; have := padN_lt (L c7).length; have := padN_lt (L c10).length; obtain ⟨f1, f2, f3⟩ := HFIT.out; omega) S6.out.2.size ?_; intro v7 w7 ho hg hto; obtain ⟨A7, N7, n7, rfl, -⟩ := own_slice ho; have S7 := Lib.hid (S6.out.app ho hg); clear ho hg hto; obtain ⟨p0, p1, p2, p3, p4, p5, p6, p7, p8, p9, p10, p11, p12⟩ := Cs.calX (C2.out.below S7.out.2 C2.out.lt))
  clear p0 p1 p2 p3 p4 p5 p6 p7 p8 p9 p10 p11 p12
  refine (qNumber 4 (by decide) _).mono ?_
  rintro e w8 ⟨u8, rfl, hox, hb⟩
  obtain ⟨Ax8, cx8, rfl, hrx, hAx⟩ := own_len hox rfl
  have hs := S7.out.below hb
  have S8 := Lib.hid hs
  have HRX := Lib.hid hrx
  have HAX := Lib.hid hAx
  clear hox hb hrx hAx hs
  go_wp2_with (at_builtin; refine append_to rfl (.tmp 22) (.tmp 26) rfl w2.heap.size _ _ _ rfl S8.out.1 Ax8 (beL ((4 : Nat) : Int) 4) _ cx8 rfl rfl HRX.out HAX.out (by (try simp only [List.length_append, beL_length, bytesX_length]); have := padN_lt c13.length; have := padN_lt (L c7).length; have := padN_lt (L c10).length; obtain ⟨f1, f2, f3⟩ := HFIT.out; omega) S8.out.2.size ?_; intro v9 w9 ho hg hto; obtain ⟨A9, N9, n9, rfl, -⟩ := own_slice ho; have S9 := Lib.hid (S8.out.app ho hg); clear ho hg hto; obtain ⟨p0, p1, p2, p3, p4, p5, p6, p7, p8, p9, p10, p11, p12⟩ := Cs.calX (C2.out.below S9.out.2 C2.out.lt))
  clear p0 p1 p2 p3 p4 p5 p6 p7 p8 p9 p10 p11 p12
  refine (handle_q S9.out.1 S9.out.2.size c5 c6 HO.out.2.2.2.1 HO.out.2.2.2.2.1 (by (try simp only [List.length_append, beL_length, bytesX_length]); have := padN_lt c13.length; have := padN_lt (L c7).length; have := padN_lt (L c10).length; obtain ⟨f1, f2, f3⟩ := HFIT.out; omega)).mono ?_
  rintro e w10 ⟨u10, rfl, ho, ht⟩
  obtain ⟨A10, N10, n10, rfl, -⟩ := own_slice ho
  have hs : AppS w2 (.slice A10 N10 n10) (beL (c1 : Int) 4 ++ beL (c2 : Int) 4 ++ beL (c3 : Int) 8 ++ beL ((4 : Nat) : Int) 4 ++ beL (c5 : Int) 4 ++ beL (c6 : Int) 4) w10 := S9.out.turn ho ht
  have S10 := Lib.hid hs
  obtain ⟨p0, p1, p2, p3, p4, p5, p6, p7, p8, p9, p10, p11, p12⟩ := Cs.calX (C2.out.below S10.out.2 C2.out.lt)
  clear hs ho ht
  go_wp2_with fail
  clear p0 p1 p2 p3 p4 p5 p6 p7 p8 p9 p10 p11 p12
  refine (qNumber c11 HO.out.2.2.2.2.2.2.2.1 _).mono ?_
  rintro e w11 ⟨u11, rfl, hox, hb⟩
  obtain ⟨Ax11, cx11, rfl, hrx, hAx⟩ := own_len hox rfl
  have hs := S10.out.below hb
  have S11 := Lib.hid hs
  have HRX := Lib.hid hrx
  have HAX := Lib.hid hAx
  clear hox hb hrx hAx hs
  go_wp2_with (at_builtin; refine append_to rfl (.tmp 55) (.tmp 58) rfl w2.heap.size _ _ _ rfl S11.out.1 Ax11 (beL (c11 : Int) 4) _ cx11 rfl rfl HRX.out HAX.out (by (try simp only [List.length_append, beL_length, bytesX_length]); have := padN_lt c13.length; have := padN_lt (L c7).length; have := padN_lt (L c10).length; obtain ⟨f1, f2, f3⟩ := HFIT.out; omega) S11.out.2.size ?_; intro v12 w12 ho hg hto; obtain ⟨A12, N12, n12, rfl, -⟩ := own_slice ho; have S12 := Lib.hid (S11.out.app ho hg); clear ho hg hto; obtain ⟨p0, p1, p2, p3, p4, p5, p6, p7, p8, p9, p10, p11, p12⟩ := Cs.calX (C2.out.below S12.out.2 C2.out.lt))
  clear p0 p1 p2 p3 p4 p5 p6 p7 p8 p9 p10 p11 p12
  refine (qNumber c12 HO.out.2.2.2.2.2.2.2.2 _).mono ?_
  rintro e w13 ⟨u13, rfl, hox, hb⟩
  obtain ⟨Ax13, cx13, rfl, hrx, hAx⟩ := own_len hox rfl
  have hs := S12.out.below hb
  have S13 := Lib.hid hs
  have HRX := Lib.hid hrx
  have HAX := Lib.hid hAx
  clear hox hb hrx hAx hs
  go_wp2_with (at_builtin; refine append_to rfl (.tmp 60) (.tmp 63) rfl w2.heap.size _ _ _ rfl S13.out.1 Ax13 (beL (c12 : Int) 4) _ cx13 rfl rfl HRX.out HAX.out (by (try simp only [List.length_append, beL_length, bytesX_length]); have := padN_lt c13.length; have := padN_lt (L c7).length; have := padN_lt (L c10).length; obtain ⟨f1, f2, f3⟩ := HFIT.out; omega) S13.out.2.size ?_; intro v14 w14 ho hg hto; obtain ⟨A14, N14, n14, rfl, -⟩ := own_slice ho; have S14 := Lib.hid (S13.out.app ho hg); clear ho hg hto; obtain ⟨p0, p1, p2, p3, p4, p5, p6, p7, p8, p9, p10, p11, p12⟩ := Cs.calX (C2.out.below S14.out.2 C2.out.lt))
  go_ret2
  exact ⟨_, rfl, (BsV.own S14.out.1).mono fun k _ hk => Nat.le_trans B2.out.size hk, B2.out.trans (S14.out.2.mono B2.out.size)⟩
set_option maxHeartbeats 16000000 in
theorem putR_5 (c1 c2 c3 c5 c6 : Nat) (c7 : ByteArray) (c8 c9 : Nat) (c10 : ByteArray) (c11 c12 : Nat) (c13 : List UInt8) {F : Nat → Prop} {A : Option Addr} {cp : Nat} {w : World} (h : CalV w F (CX c1 c2 c3 5 c5 c6 c7 c8 c9 c10 c11 c12 c13) (.slice A c13.length cp)) (hm : mayX (CX c1 c2 c3 5 c5 c6 c7 c8 c9 c10 c11 c12 c13) = true) : Calls Tryd.prog 8 #[.agg (calCells (CX c1 c2 c3 5 c5 c6 c7 c8 c9 c10 c11 c12 c13) (.slice A c13.length cp)).toArray] w fun e w' => ∃ v, e = .returned (.tuple #[v, .int .i64 0]) ∧ BsV w' (w.heap.size ≤ ·) v (beL (c1 : Int) 4 ++ beL (c2 : Int) 4 ++ beL (c3 : Int) 8 ++ beL ((5 : Nat) : Int) 4 ++ beL (c5 : Int) 4 ++ beL (c6 : Int) 4 ++ beL (c11 : Int) 4 ++ bytesX c13) ∧ Below w.heap.size w w' := by
  have HM := Lib.hid fun u (hb : Below w.heap.size w u) => MayR_v (h.below hb)
  rw [hm] at HM
  obtain ⟨-, f1, f2, f3⟩ := mayX_fit hm
  dsimp only [CX] at f1 f2 f3
  obtain ⟨o1, o2, o3, o4, o5, o6, o7, o8, o9, o10⟩ := h.2
  dsimp only [CX] at o1 o2 o3 o4 o5 o6 o7 o8 o9 o10
  have hrd := h.1.rdC
  have hnil : A = none → c13 = [] ∧ cp = 0 := by obtain ⟨A', c', e, -, e2, -⟩ := h.1; cases e; exact e2
  have HD := Lib.hid hrd
  have HNIL := Lib.hid hnil
  have HFIT := Lib.hid (And.intro f1 (And.intro f2 f3))
  have i1 : (c1 : Int) ≤ 255 := by omega
  have HO := Lib.hid (And.intro o1 (And.intro o2 (And.intro o3 (And.intro o5 (And.intro o6 (And.intro o7 (And.intro o8 (And.intro o9 o10))))))))
  clear h hm f1 f2 f3 o1 o2 o3 o4 o5 o6 o7 o8 o9 o10 hrd hnil
  generalize hA : calCells (CX c1 c2 c3 5 c5 c6 c7 c8 c9 c10 c11 c12 c13) (.slice A c13.length cp) = cs at *
  have HA := Lib.hid hA
  have hlen : cs.length = 13 := by rw [← hA]; rfl
  have HLEN := Lib.hid hlen
  clear hA hlen
  go_enter Tryd.func8, Tryd.ntmps8
  go_wp2_with (first
    | ((with_reducible show wpList _ _ _ _ _ w); refine wpList_boxS rfl 28 _ rfl cs rfl ?_; intro g1 w1 hk1 hb1 hg1; go_frame; have C1 := Lib.hid hk1; have B1 := Lib.hid hb1; have G1 := Lib.hid hg1; clear hk1 hb1 hg1)
    | ((with_reducible show wpList _ _ _ _ _ w1); refine wpList_loadS rfl 28 _ rfl g1 rfl cs C1.out _ Tryd.underlying28 rfl (by rw [HLEN.out]; exact infoCall) ?_; go_frame)
    | fail)
  refine (HM.out _ B1.out).mono ?_
  rintro e w2 ⟨rfl, hb⟩
  have hc := C1.out.below hb C1.out.lt
  rw [← HA.out] at hc
  obtain ⟨p0, p1, p2, p3, p4, p5, p6, p7, p8, p9, p10, p11, p12⟩ := Cs.calX hc
  have C2 := Lib.hid hc
  have B2 := Lib.hid (below_chain B1.out hb)
  clear hc hb
  go_wp2_with fail
  clear p0 p1 p2 p3 p4 p5 p6 p7 p8 p9 p10 p11 p12
  refine (qNumber c1 (by have := HO.out.1; omega) _).mono ?_
  rintro e w3 ⟨u3, rfl, hox, hb⟩
  obtain ⟨A3, N3, n3, rfl, -⟩ := own_slice hox
  have hs : AppS w2 (.slice A3 N3 n3) (beL (c1 : Int) 4) w3 := AppS.start hox hb
  obtain ⟨p0, p1, p2, p3, p4, p5, p6, p7, p8, p9, p10, p11, p12⟩ := Cs.calX (C2.out.below hb C2.out.lt)
  have S3 := Lib.hid hs
  clear hox hb hs
  go_wp2_with fail
  clear p0 p1 p2 p3 p4 p5 p6 p7 p8 p9 p10 p11 p12
  refine (qNumber c2 HO.out.2.1 _).mono ?_
  rintro e w4 ⟨u4, rfl, hox, hb⟩
  obtain ⟨Ax4, cx4, rfl, hrx, hAx⟩ := own_len hox rfl
  have hs := S3.out.below hb
  have S4 := Lib.hid hs
  have HRX := Lib.hid hrx
  have HAX := Lib.hid hAx
  clear hox hb hrx hAx hs
  go_wp2_with (at_builtin; refine append_to rfl (.tmp 12) (.tmp 15) rfl w2.heap.size _ _ _ rfl S4.out.1 Ax4 (beL (c2 : Int) 4) _ cx4 rfl rfl HRX.out HAX.out (by (try simp only [List.length_append, beL_length, bytesX_length]); have := padN_lt c13.length; have := padN_lt (L c7).length; have := padN_lt (L c10).length; obtain ⟨f1, f2, f3⟩ := HFIT.out; omega) S4.out.2.size ?_; intro v5 w5 ho hg hto; obtain ⟨A5, N5, n5, rfl, -⟩ := own_slice ho; have S5 := Lib.hid (S4.out.app ho hg); clear ho hg hto; obtain ⟨p0, p1, p2, p3, p4, p5, p6, p7, p8, p9, p10, p11, p12⟩ := Cs.calX (C2.out.below S5.out.2 C2.out.lt))
  clear p0 p1 p2 p3 p4 p5 p6 p7 p8 p9 p10 p11 p12
  refine (qGreat c3 HO.out.2.2.1 _).mono ?_
  rintro e w6 ⟨u6, rfl, hox, hb⟩
  obtain ⟨Ax6, cx6, rfl, hrx, hAx⟩ := own_len hox rfl
  have hs := S5.out.below hb
  have S6 := Lib.hid hs
  have HRX := Lib.hid hrx
  have HAX := Lib.hid hAx
  clear hox hb hrx hAx hs
  go_wp2_with (at_builtin; refine append_to rfl (.tmp 17) (.tmp 20) rfl w2.heap.size _ _ _ rfl S6.out.1 Ax6 (beL (c3 : Int) 8) _ cx6 rfl rfl HRX.out HAX.out (by (try simp only [List.length_append, beL_length, bytesX_length]); have := padN_lt c13.length; have := padN_lt (L c7).length; have := padN_lt (L c10).length; obtain ⟨f1, f2, f3⟩ := HFIT.out; omega) S6.out.2.size ?_; intro v7 w7 ho hg hto; obtain ⟨A7, N7, n7, rfl, -⟩ := own_slice ho; have S7 := Lib.hid (S6.out.app ho hg); clear ho hg hto; obtain ⟨p0, p1, p2, p3, p4, p5, p6, p7, p8, p9, p10, p11, p12⟩ := Cs.calX (C2.out.below S7.out.2 C2.out.lt))
  clear p0 p1 p2 p3 p4 p5 p6 p7 p8 p9 p10 p11 p12
  refine (qNumber 5 (by decide) _).mono ?_
  rintro e w8 ⟨u8, rfl, hox, hb⟩
  obtain ⟨Ax8, cx8, rfl, hrx, hAx⟩ := own_len hox rfl
  have hs := S7.out.below hb
  have S8 := Lib.hid hs
  have HRX := Lib.hid hrx
  have HAX := Lib.hid hAx
  clear hox hb hrx hAx hs
  go_wp2_with (at_builtin; refine append_to rfl (.tmp 22) (.tmp 26) rfl w2.heap.size _ _ _ rfl S8.out.1 Ax8 (beL ((5 : Nat) : Int) 4) _ cx8 rfl rfl HRX.out HAX.out (by (try simp only [List.length_append, beL_length, bytesX_length]); have := padN_lt c13.length; have := padN_lt (L c7).length; have := padN_lt (L c10).length; obtain ⟨f1, f2, f3⟩ := HFIT.out; omega) S8.out.2.size ?_; intro v9 w9 ho hg hto; obtain ⟨A9, N9, n9, rfl, -⟩ := own_slice ho; have S9 := Lib.hid (S8.out.app ho hg); clear ho hg hto; obtain ⟨p0, p1, p2, p3, p4, p5, p6, p7, p8, p9, p10, p11, p12⟩ := Cs.calX (C2.out.below S9.out.2 C2.out.lt))
  clear p0 p1 p2 p3 p4 p5 p6 p7 p8 p9 p10 p11 p12
  refine (handle_q S9.out.1 S9.out.2.size c5 c6 HO.out.2.2.2.1 HO.out.2.2.2.2.1 (by (try simp only [List.length_append, beL_length, bytesX_length]); have := padN_lt c13.length; have := padN_lt (L c7).length; have := padN_lt (L c10).length; obtain ⟨f1, f2, f3⟩ := HFIT.out; omega)).mono ?_
  rintro e w10 ⟨u10, rfl, ho, ht⟩
  obtain ⟨A10, N10, n10, rfl, -⟩ := own_slice ho
  have hs : AppS w2 (.slice A10 N10 n10) (beL (c1 : Int) 4 ++ beL (c2 : Int) 4 ++ beL (c3 : Int) 8 ++ beL ((5 : Nat) : Int) 4 ++ beL (c5 : Int) 4 ++ beL (c6 : Int) 4) w10 := S9.out.turn ho ht
  have S10 := Lib.hid hs
  obtain ⟨p0, p1, p2, p3, p4, p5, p6, p7, p8, p9, p10, p11, p12⟩ := Cs.calX (C2.out.below S10.out.2 C2.out.lt)
  clear hs ho ht
  go_wp2_with fail
  clear p0 p1 p2 p3 p4 p5 p6 p7 p8 p9 p10 p11 p12
  refine (qNumber c11 HO.out.2.2.2.2.2.2.2.1 _).mono ?_
  rintro e w11 ⟨u11, rfl, hox, hb⟩
  obtain ⟨Ax11, cx11, rfl, hrx, hAx⟩ := own_len hox rfl
  have hs := S10.out.below hb
  have S11 := Lib.hid hs
  have HRX := Lib.hid hrx
  have HAX := Lib.hid hAx
  clear hox hb hrx hAx hs
  go_wp2_with (at_builtin; refine append_to rfl (.tmp 67) (.tmp 70) rfl w2.heap.size _ _ _ rfl S11.out.1 Ax11 (beL (c11 : Int) 4) _ cx11 rfl rfl HRX.out HAX.out (by (try simp only [List.length_append, beL_length, bytesX_length]); have := padN_lt c13.length; have := padN_lt (L c7).length; have := padN_lt (L c10).length; obtain ⟨f1, f2, f3⟩ := HFIT.out; omega) S11.out.2.size ?_; intro v12 w12 ho hg hto; obtain ⟨A12, N12, n12, rfl, -⟩ := own_slice ho; have S12 := Lib.hid (S11.out.app ho hg); clear ho hg hto; obtain ⟨p0, p1, p2, p3, p4, p5, p6, p7, p8, p9, p10, p11, p12⟩ := Cs.calX (C2.out.below S12.out.2 C2.out.lt))
  clear p0 p1 p2 p3 p4 p5 p6 p7 p8 p9 p10 p11 p12
  refine (qBytes c13 A cp _ (by obtain ⟨f1, f2, f3⟩ := HFIT.out; omega) (HD.out.below (below_chain B2.out (S12.out.2))) HNIL.out).mono ?_
  rintro e w13 ⟨u13, rfl, hox, hb⟩
  obtain ⟨Ax13, cx13, rfl, hrx, hAx⟩ := own_len hox rfl
  have hs := S12.out.below hb
  have S13 := Lib.hid hs
  have HRX := Lib.hid hrx
  have HAX := Lib.hid hAx
  clear hox hb hrx hAx hs
  go_wp2_with (at_builtin; refine append_to rfl (.tmp 72) (.tmp 75) rfl w2.heap.size _ _ _ rfl S13.out.1 Ax13 (bytesX c13) _ cx13 rfl rfl HRX.out HAX.out (by (try simp only [List.length_append, beL_length, bytesX_length]); have := padN_lt c13.length; have := padN_lt (L c7).length; have := padN_lt (L c10).length; obtain ⟨f1, f2, f3⟩ := HFIT.out; omega) S13.out.2.size ?_; intro v14 w14 ho hg hto; obtain ⟨A14, N14, n14, rfl, -⟩ := own_slice ho; have S14 := Lib.hid (S13.out.app ho hg); clear ho hg hto; obtain ⟨p0, p1, p2, p3, p4, p5, p6, p7, p8, p9, p10, p11, p12⟩ := Cs.calX (C2.out.below S14.out.2 C2.out.lt))
  go_ret2
  exact ⟨_, rfl, (BsV.own S14.out.1).mono fun k _ hk => Nat.le_trans B2.out.size hk, B2.out.trans (S14.out.2.mono B2.out.size)⟩
set_option maxHeartbeats 16000000 in
theorem putR_6 (c1 c2 c3 c5 c6 : Nat) (c7 : ByteArray) (c8 c9 : Nat) (c10 : ByteArray) (c11 c12 : Nat) (c13 : List UInt8) {F : Nat → Prop} {A : Option Addr} {cp : Nat} {w : World} (h : CalV w F (CX c1 c2 c3 6 c5 c6 c7 c8 c9 c10 c11 c12 c13) (.slice A c13.length cp)) (hm : mayX (CX c1 c2 c3 6 c5 c6 c7 c8 c9 c10 c11 c12 c13) = true) : Calls Tryd.prog 8 #[.agg (calCells (CX c1 c2 c3 6 c5 c6 c7 c8 c9 c10 c11 c12 c13) (.slice A c13.length cp)).toArray] w fun e w' => ∃ v, e = .returned (.tuple #[v, .int .i64 0]) ∧ BsV w' (w.heap.size ≤ ·) v (beL (c1 : Int) 4 ++ beL (c2 : Int) 4 ++ beL (c3 : Int) 8 ++ beL ((6 : Nat) : Int) 4 ++ beL (c5 : Int) 4 ++ beL (c6 : Int) 4) ∧ Below w.heap.size w w' := by
  have HM := Lib.hid fun u (hb : Below w.heap.size w u) => MayR_v (h.below hb)
  rw [hm] at HM
  obtain ⟨-, f1, f2, f3⟩ := mayX_fit hm
  dsimp only [CX] at f1 f2 f3
  obtain ⟨o1, o2, o3, o4, o5, o6, o7, o8, o9, o10⟩ := h.2
  dsimp only [CX] at o1 o2 o3 o4 o5 o6 o7 o8 o9 o10
  have hrd := h.1.rdC
  have hnil : A = none → c13 = [] ∧ cp = 0 := by obtain ⟨A', c', e, -, e2, -⟩ := h.1; cases e; exact e2
  have HD := Lib.hid hrd
  have HNIL := Lib.hid hnil
  have HFIT := Lib.hid (And.intro f1 (And.intro f2 f3))
  have i1 : (c1 : Int) ≤ 255 := by omega
  have HO := Lib.hid (And.intro o1 (And.intro o2 (And.intro o3 (And.intro o5 (And.intro o6 (And.intro o7 (And.intro o8 (And.intro o9 o10))))))))
  clear h hm f1 f2 f3 o1 o2 o3 o4 o5 o6 o7 o8 o9 o10 hrd hnil
  generalize hA : calCells (CX c1 c2 c3 6 c5 c6 c7 c8 c9 c10 c11 c12 c13) (.slice A c13.length cp) = cs at *
  have HA := Lib.hid hA
  have hlen : cs.length = 13 := by rw [← hA]; rfl
  have HLEN := Lib.hid hlen
  clear hA hlen
  go_enter Tryd.func8, Tryd.ntmps8
  go_wp2_with (first
    | ((with_reducible show wpList _ _ _ _ _ w); refine wpList_boxS rfl 28 _ rfl cs rfl ?_; intro g1 w1 hk1 hb1 hg1; go_frame; have C1 := Lib.hid hk1; have B1 := Lib.hid hb1; have G1 := Lib.hid hg1; clear hk1 hb1 hg1)
    | ((with_reducible show wpList _ _ _ _ _ w1); refine wpList_loadS rfl 28 _ rfl g1 rfl cs C1.out _ Tryd.underlying28 rfl (by rw [HLEN.out]; exact infoCall) ?_; go_frame)
    | fail)
  refine (HM.out _ B1.out).mono ?_
  rintro e w2 ⟨rfl, hb⟩
  have hc := C1.out.below hb C1.out.lt
  rw [← HA.out] at hc
  obtain ⟨p0, p1, p2, p3, p4, p5, p6, p7, p8, p9, p10, p11, p12⟩ := Cs.calX hc
  have C2 := Lib.hid hc
  have B2 := Lib.hid (below_chain B1.out hb)
  clear hc hb
  go_wp2_with fail
  clear p0 p1 p2 p3 p4 p5 p6 p7 p8 p9 p10 p11 p12
  refine (qNumber c1 (by have := HO.out.1; omega) _).mono ?_
  rintro e w3 ⟨u3, rfl, hox, hb⟩
  obtain ⟨A3, N3, n3, rfl, -⟩ := own_slice hox
  have hs : AppS w2 (.slice A3 N3 n3) (beL (c1 : Int) 4) w3 := AppS.start hox hb
  obtain ⟨p0, p1, p2, p3, p4, p5, p6, p7, p8, p9, p10, p11, p12⟩ := Cs.calX (C2.out.below hb C2.out.lt)
  have S3 := Lib.hid hs
  clear hox hb hs
  go_wp2_with fail
  clear p0 p1 p2 p3 p4 p5 p6 p7 p8 p9 p10 p11 p12
  refine (qNumber c2 HO.out.2.1 _).mono ?_
  rintro e w4 ⟨u4, rfl, hox, hb⟩
  obtain ⟨Ax4, cx4, rfl, hrx, hAx⟩ := own_len hox rfl
  have hs := S3.out.below hb
  have S4 := Lib.hid hs
  have HRX := Lib.hid hrx
  have HAX := Lib.hid hAx
  clear hox hb hrx hAx hs
  go_wp2_with (at_builtin; refine append_to rfl (.tmp 12) (.tmp 15) rfl w2.heap.size _ _ _ rfl S4.out.1 Ax4 (beL (c2 : Int) 4) _ cx4 rfl rfl HRX.out HAX.out (by (try simp only [List.length_append, beL_length, bytesX_length]); have := padN_lt c13.length; have := padN_lt (L c7).length; have := padN_lt (L c10).length; obtain ⟨f1, f2, f3⟩ := HFIT.out; omega) S4.out.2.size ?_; intro v5 w5 ho hg hto; obtain ⟨A5, N5, n5, rfl, -⟩ := own_slice ho; have S5 := Lib.hid (S4.out.app ho hg); clear ho hg hto; obtain ⟨p0, p1, p2, p3, p4, p5, p6, p7, p8, p9, p10, p11, p12⟩ := Cs.calX (C2.out.below S5.out.2 C2.out.lt))
  clear p0 p1 p2 p3 p4 p5 p6 p7 p8 p9 p10 p11 p12
  refine (qGreat c3 HO.out.2.2.1 _).mono ?_
  rintro e w6 ⟨u6, rfl, hox, hb⟩
  obtain ⟨Ax6, cx6, rfl, hrx, hAx⟩ := own_len hox rfl
  have hs := S5.out.below hb
  have S6 := Lib.hid hs
  have HRX := Lib.hid hrx
  have HAX := Lib.hid hAx
  clear hox hb hrx hAx hs
  go_wp2_with (at_builtin; refine append_to rfl (.tmp 17) (.tmp 20) rfl w2.heap.size _ _ _ rfl S6.out.1 Ax6 (beL (c3 : Int) 8) _ cx6 rfl rfl HRX.out HAX.out (by (try simp only [List.length_append, beL_length, bytesX_length]); have := padN_lt c13.length; have := padN_lt (L c7).length; have := padN_lt (L c10).length; obtain ⟨f1, f2, f3⟩ := HFIT.out; omega) S6.out.2.size ?_; intro v7 w7 ho hg hto; obtain ⟨A7, N7, n7, rfl, -⟩ := own_slice ho; have S7 := Lib.hid (S6.out.app ho hg); clear ho hg hto; obtain ⟨p0, p1, p2, p3, p4, p5, p6, p7, p8, p9, p10, p11, p12⟩ := Cs.calX (C2.out.below S7.out.2 C2.out.lt))
  clear p0 p1 p2 p3 p4 p5 p6 p7 p8 p9 p10 p11 p12
  refine (qNumber 6 (by decide) _).mono ?_
  rintro e w8 ⟨u8, rfl, hox, hb⟩
  obtain ⟨Ax8, cx8, rfl, hrx, hAx⟩ := own_len hox rfl
  have hs := S7.out.below hb
  have S8 := Lib.hid hs
  have HRX := Lib.hid hrx
  have HAX := Lib.hid hAx
  clear hox hb hrx hAx hs
  go_wp2_with (at_builtin; refine append_to rfl (.tmp 22) (.tmp 26) rfl w2.heap.size _ _ _ rfl S8.out.1 Ax8 (beL ((6 : Nat) : Int) 4) _ cx8 rfl rfl HRX.out HAX.out (by (try simp only [List.length_append, beL_length, bytesX_length]); have := padN_lt c13.length; have := padN_lt (L c7).length; have := padN_lt (L c10).length; obtain ⟨f1, f2, f3⟩ := HFIT.out; omega) S8.out.2.size ?_; intro v9 w9 ho hg hto; obtain ⟨A9, N9, n9, rfl, -⟩ := own_slice ho; have S9 := Lib.hid (S8.out.app ho hg); clear ho hg hto; obtain ⟨p0, p1, p2, p3, p4, p5, p6, p7, p8, p9, p10, p11, p12⟩ := Cs.calX (C2.out.below S9.out.2 C2.out.lt))
  clear p0 p1 p2 p3 p4 p5 p6 p7 p8 p9 p10 p11 p12
  refine (handle_q S9.out.1 S9.out.2.size c5 c6 HO.out.2.2.2.1 HO.out.2.2.2.2.1 (by (try simp only [List.length_append, beL_length, bytesX_length]); have := padN_lt c13.length; have := padN_lt (L c7).length; have := padN_lt (L c10).length; obtain ⟨f1, f2, f3⟩ := HFIT.out; omega)).mono ?_
  rintro e w10 ⟨u10, rfl, ho, ht⟩
  obtain ⟨A10, N10, n10, rfl, -⟩ := own_slice ho
  have hs : AppS w2 (.slice A10 N10 n10) (beL (c1 : Int) 4 ++ beL (c2 : Int) 4 ++ beL (c3 : Int) 8 ++ beL ((6 : Nat) : Int) 4 ++ beL (c5 : Int) 4 ++ beL (c6 : Int) 4) w10 := S9.out.turn ho ht
  have S10 := Lib.hid hs
  obtain ⟨p0, p1, p2, p3, p4, p5, p6, p7, p8, p9, p10, p11, p12⟩ := Cs.calX (C2.out.below S10.out.2 C2.out.lt)
  clear hs ho ht
  go_wp2_with fail
  go_ret2
  exact ⟨_, rfl, (BsV.own S10.out.1).mono fun k _ hk => Nat.le_trans B2.out.size hk, B2.out.trans (S10.out.2.mono B2.out.size)⟩
set_option maxHeartbeats 16000000 in
theorem putR_7 (c1 c2 c3 c5 c6 : Nat) (c7 : ByteArray) (c8 c9 : Nat) (c10 : ByteArray) (c11 c12 : Nat) (c13 : List UInt8) {F : Nat → Prop} {A : Option Addr} {cp : Nat} {w : World} (h : CalV w F (CX c1 c2 c3 7 c5 c6 c7 c8 c9 c10 c11 c12 c13) (.slice A c13.length cp)) (hm : mayX (CX c1 c2 c3 7 c5 c6 c7 c8 c9 c10 c11 c12 c13) = true) : Calls Tryd.prog 8 #[.agg (calCells (CX c1 c2 c3 7 c5 c6 c7 c8 c9 c10 c11 c12 c13) (.slice A c13.length cp)).toArray] w fun e w' => ∃ v, e = .returned (.tuple #[v, .int .i64 0]) ∧ BsV w' (w.heap.size ≤ ·) v (beL (c1 : Int) 4 ++ beL (c2 : Int) 4 ++ beL (c3 : Int) 8 ++ beL ((7 : Nat) : Int) 4 ++ beL (c5 : Int) 4 ++ beL (c6 : Int) 4 ++ bytesX (L c7)) ∧ Below w.heap.size w w' := by
  have HM := Lib.hid fun u (hb : Below w.heap.size w u) => MayR_v (h.below hb)
  rw [hm] at HM
  obtain ⟨-, f1, f2, f3⟩ := mayX_fit hm
  dsimp only [CX] at f1 f2 f3
  obtain ⟨o1, o2, o3, o4, o5, o6, o7, o8, o9, o10⟩ := h.2
  dsimp only [CX] at o1 o2 o3 o4 o5 o6 o7 o8 o9 o10
  have hrd := h.1.rdC
  have hnil : A = none → c13 = [] ∧ cp = 0 := by obtain ⟨A', c', e, -, e2, -⟩ := h.1; cases e; exact e2
  have HD := Lib.hid hrd
  have HNIL := Lib.hid hnil
  have HFIT := Lib.hid (And.intro f1 (And.intro f2 f3))
  have i1 : (c1 : Int) ≤ 255 := by omega
  have HO := Lib.hid (And.intro o1 (And.intro o2 (And.intro o3 (And.intro o5 (And.intro o6 (And.intro o7 (And.intro o8 (And.intro o9 o10))))))))
  clear h hm f1 f2 f3 o1 o2 o3 o4 o5 o6 o7 o8 o9 o10 hrd hnil
  generalize hA : calCells (CX c1 c2 c3 7 c5 c6 c7 c8 c9 c10 c11 c12 c13) (.slice A c13.length cp) = cs at *
  have HA := Lib.hid hA
  have hlen : cs.length = 13 := by rw [← hA]; rfl
  have HLEN := Lib.hid hlen
  clear hA hlen
  go_enter Tryd.func8, Tryd.ntmps8
  go_wp2_with (first
    | ((with_reducible show wpList _ _ _ _ _ w); refine wpList_boxS rfl 28 _ rfl cs rfl ?_; intro g1 w1 hk1 hb1 hg1; go_frame; have C1 := Lib.hid hk1; have B1 := Lib.hid hb1; have G1 := Lib.hid hg1; clear hk1 hb1 hg1)
    | ((with_reducible show wpList _ _ _ _ _ w1); refine wpList_loadS rfl 28 _ rfl g1 rfl cs C1.out _ Tryd.underlying28 rfl (by rw [HLEN.out]; exact infoCall) ?_; go_frame)
    | fail)
  refine (HM.out _ B1.out).mono ?_
  rintro e w2 ⟨rfl, hb⟩
  have hc := C1.out.below hb C1.out.lt
  rw [← HA.out] at hc
  obtain ⟨p0, p1, p2, p3, p4, p5, p6, p7, p8, p9, p10, p11, p12⟩ := Cs.calX hc
  have C2 := Lib.hid hc
  have B2 := Lib.hid (below_chain B1.out hb)
  clear hc hb
  go_wp2_with fail
  clear p0 p1 p2 p3 p4 p5 p6 p7 p8 p9 p10 p11 p12
  refine (qNumber c1 (by have := HO.out.1; omega) _).mono ?_
  rintro e w3 ⟨u3, rfl, hox, hb⟩
  obtain ⟨A3, N3, n3, rfl, -⟩ := own_slice hox
  have hs : AppS w2 (.slice A3 N3 n3) (beL (c1 : Int) 4) w3 := AppS.start hox hb
  obtain ⟨p0, p1, p2, p3, p4, p5, p6, p7, p8, p9, p10, p11, p12⟩ := Cs.calX (C2.out.below hb C2.out.lt)
  have S3 := Lib.hid hs
  clear hox hb hs
  go_wp2_with fail
  clear p0 p1 p2 p3 p4 p5 p6 p7 p8 p9 p10 p11 p12
  refine (qNumber c2 HO.out.2.1 _).mono ?_
  rintro e w4 ⟨u4, rfl, hox, hb⟩
  obtain ⟨Ax4, cx4, rfl, hrx, hAx⟩ := own_len hox rfl
  have hs := S3.out.below hb
  have S4 := Lib.hid hs
  have HRX := Lib.hid hrx
  have HAX := Lib.hid hAx
  clear hox hb hrx hAx hs
  go_wp2_with (at_builtin; refine append_to rfl (.tmp 12) (.tmp 15) rfl w2.heap.size _ _ _ rfl S4.out.1 Ax4 (beL (c2 : Int) 4) _ cx4 rfl rfl HRX.out HAX.out (by (try simp only [List.length_append, beL_length, bytesX_length]); have := padN_lt c13.length; have := padN_lt (L c7).length; have := padN_lt (L c10).length; obtain ⟨f1, f2, f3⟩ := HFIT.out; omega) S4.out.2.size ?_; intro v5 w5 ho hg hto; obtain ⟨A5, N5, n5, rfl, -⟩ := own_slice ho; have S5 := Lib.hid (S4.out.app ho hg); clear ho hg hto; obtain ⟨p0, p1, p2, p3, p4, p5, p6, p7, p8, p9, p10, p11, p12⟩ := Cs.calX (C2.out.below S5.out.2 C2.out.lt))
  clear p0 p1 p2 p3 p4 p5 p6 p7 p8 p9 p10 p11 p12
  refine (qGreat c3 HO.out.2.2.1 _).mono ?_
  rintro e w6 ⟨u6, rfl, hox, hb⟩
  obtain ⟨Ax6, cx6, rfl, hrx, hAx⟩ := own_len hox rfl
  have hs := S5.out.below hb
  have S6 := Lib.hid hs
  have HRX := Lib.hid hrx
  have HAX := Lib.hid hAx
  clear hox hb hrx hAx hs
  go_wp2_with (at_builtin; refine append_to rfl (.tmp 17) (.tmp 20) rfl w2.heap.size _ _ _ rfl S6.out.1 Ax6 (beL (c3 : Int) 8) _ cx6 rfl rfl HRX.out HAX.out (by (try simp only [List.length_append, beL_length, bytesX_length]); have := padN_lt c13.length; have := padN_lt (L c7).length; have := padN_lt (L c10).length; obtain ⟨f1, f2, f3⟩ := HFIT.out; omega) S6.out.2.size ?_; intro v7 w7 ho hg hto; obtain ⟨A7, N7, n7, rfl, -⟩ := own_slice ho; have S7 := Lib.hid (S6.out.app ho hg); clear ho hg hto; obtain ⟨p0, p1, p2, p3, p4, p5, p6, p7, p8, p9, p10, p11, p12⟩ := Cs.calX (C2.out.below S7.out.2 C2.out.lt))
  clear p0 p1 p2 p3 p4 p5 p6 p7 p8 p9 p10 p11 p12
  refine (qNumber 7 (by decide) _).mono ?_
  rintro e w8 ⟨u8, rfl, hox, hb⟩
  obtain ⟨Ax8, cx8, rfl, hrx, hAx⟩ := own_len hox rfl
  have hs := S7.out.below hb
  have S8 := Lib.hid hs
  have HRX := Lib.hid hrx
  have HAX := Lib.hid hAx
  clear hox hb hrx hAx hs
  go_wp2_with (at_builtin; refine append_to rfl (.tmp 22) (.tmp 26) rfl w2.heap.size _ _ _ rfl S8.out.1 Ax8 (beL ((7 : Nat) : Int) 4) _ cx8 rfl rfl HRX.out HAX.out (by (try simp only [List.length_append, beL_length, bytesX_length]); have := padN_lt c13.length; have := padN_lt (L c7).length; have := padN_lt (L c10).length; obtain ⟨f1, f2, f3⟩ := HFIT.out; omega) S8.out.2.size ?_; intro v9 w9 ho hg hto; obtain ⟨A9, N9, n9, rfl, -⟩ := own_slice ho; have S9 := Lib.hid (S8.out.app ho hg); clear ho hg hto; obtain ⟨p0, p1, p2, p3, p4, p5, p6, p7, p8, p9, p10, p11, p12⟩ := Cs.calX (C2.out.below S9.out.2 C2.out.lt))
  clear p0 p1 p2 p3 p4 p5 p6 p7 p8 p9 p10 p11 p12
  refine (handle_q S9.out.1 S9.out.2.size c5 c6 HO.out.2.2.2.1 HO.out.2.2.2.2.1 (by (try simp only [List.length_append, beL_length, bytesX_length]); have := padN_lt c13.length; have := padN_lt (L c7).length; have := padN_lt (L c10).length; obtain ⟨f1, f2, f3⟩ := HFIT.out; omega)).mono ?_
  rintro e w10 ⟨u10, rfl, ho, ht⟩
  obtain ⟨A10, N10, n10, rfl, -⟩ := own_slice ho
  have hs : AppS w2 (.slice A10 N10 n10) (beL (c1 : Int) 4 ++ beL (c2 : Int) 4 ++ beL (c3 : Int) 8 ++ beL ((7 : Nat) : Int) 4 ++ beL (c5 : Int) 4 ++ beL (c6 : Int) 4) w10 := S9.out.turn ho ht
  have S10 := Lib.hid hs
  obtain ⟨p0, p1, p2, p3, p4, p5, p6, p7, p8, p9, p10, p11, p12⟩ := Cs.calX (C2.out.below S10.out.2 C2.out.lt)
  clear hs ho ht
  obtain ⟨W10, q10, hcv10, hbw, hszw, hbv⟩ := conv_str c7 (by rw [L_size]; obtain ⟨f1, f2, f3⟩ := HFIT.out; omega) w10
  have BW10 := Lib.hid hbw
  have RT10 := Lib.hid hbv.rdC
  clear hbw hszw hbv
  go_wp2_with fail
  clear p0 p1 p2 p3 p4 p5 p6 p7 p8 p9 p10 p11 p12
  refine (qBytes (L c7) (some ⟨w10.heap.size, 0, none⟩) q10 _ (by obtain ⟨f1, f2, f3⟩ := HFIT.out; omega) RT10.out (fun h => by cases h)).mono ?_
  rintro e w11 ⟨u11, rfl, hox, hb⟩
  obtain ⟨Ax11, cx11, rfl, hrx, hAx⟩ := own_len hox rfl
  have hs := (S10.out.below BW10.out).below hb
  have S11 := Lib.hid hs
  have HRX := Lib.hid hrx
  have HAX := Lib.hid hAx
  clear hox hb hrx hAx hs
  go_wp2_with (at_builtin; refine append_to rfl (.tmp 47) (.tmp 51) rfl w2.heap.size _ _ _ rfl S11.out.1 Ax11 (bytesX (L c7)) _ cx11 rfl rfl HRX.out HAX.out (by (try simp only [List.length_append, beL_length, bytesX_length]); have := padN_lt c13.length; have := padN_lt (L c7).length; have := padN_lt (L c10).length; obtain ⟨f1, f2, f3⟩ := HFIT.out; omega) S11.out.2.size ?_; intro v12 w12 ho hg hto; obtain ⟨A12, N12, n12, rfl, -⟩ := own_slice ho; have S12 := Lib.hid (S11.out.app ho hg); clear ho hg hto; obtain ⟨p0, p1, p2, p3, p4, p5, p6, p7, p8, p9, p10, p11, p12⟩ := Cs.calX (C2.out.below S12.out.2 C2.out.lt))
  go_ret2
  exact ⟨_, rfl, (BsV.own S12.out.1).mono fun k _ hk => Nat.le_trans B2.out.size hk, B2.out.trans (S12.out.2.mono B2.out.size)⟩
set_option maxHeartbeats 16000000 in
theorem putR_8 (c1 c2 c3 c5 c6 : Nat) (c7 : ByteArray) (c8 c9 : Nat) (c10 : ByteArray) (c11 c12 : Nat) (c13 : List UInt8) {F : Nat → Prop} {A : Option Addr} {cp : Nat} {w : World} (h : CalV w F (CX c1 c2 c3 8 c5 c6 c7 c8 c9 c10 c11 c12 c13) (.slice A c13.length cp)) (hm : mayX (CX c1 c2 c3 8 c5 c6 c7 c8 c9 c10 c11 c12 c13) = true) : Calls Tryd.prog 8 #[.agg (calCells (CX c1 c2 c3 8 c5 c6 c7 c8 c9 c10 c11 c12 c13) (.slice A c13.length cp)).toArray] w fun e w' => ∃ v, e = .returned (.tuple #[v, .int .i64 0]) ∧ BsV w' (w.heap.size ≤ ·) v (beL (c1 : Int) 4 ++ beL (c2 : Int) 4 ++ beL (c3 : Int) 8 ++ beL ((8 : Nat) : Int) 4 ++ beL (c5 : Int) 4 ++ beL (c6 : Int) 4 ++ bytesX (L c7)) ∧ Below w.heap.size w w' := by
  have HM := Lib.hid fun u (hb : Below w.heap.size w u) => MayR_v (h.below hb)
  rw [hm] at HM
  obtain ⟨-, f1, f2, f3⟩ := mayX_fit hm
  dsimp only [CX] at f1 f2 f3
  obtain ⟨o1, o2, o3, o4, o5, o6, o7, o8, o9, o10⟩ := h.2
  dsimp only [CX] at o1 o2 o3 o4 o5 o6 o7 o8 o9 o10
  have hrd := h.1.rdC
  have hnil : A = none → c13 = [] ∧ cp = 0 := by obtain ⟨A', c', e, -, e2, -⟩ := h.1; cases e; exact e2
  have HD := Lib.hid hrd
  have HNIL := Lib.hid hnil
  have HFIT := Lib.hid (And.intro f1 (And.intro f2 f3))
  have i1 : (c1 : Int) ≤ 255 := by omega
  have HO := Lib.hid (And.intro o1 (And.intro o2 (And.intro o3 (And.intro o5 (And.intro o6 (And.intro o7 (And.intro o8 (And.intro o9 o10))))))))
  clear h hm f1 f2 f3 o1 o2 o3 o4 o5 o6 o7 o8 o9 o10 hrd hnil
  generalize hA : calCells (CX c1 c2 c3 8 c5 c6 c7 c8 c9 c10 c11 c12 c13) (.slice A c13.length cp) = cs at *
  have HA := Lib.hid hA
  have hlen : cs.length = 13 := by rw [← hA]; rfl
  have HLEN := Lib.hid hlen
  clear hA hlen
  go_enter Tryd.func8, Tryd.ntmps8
  go_wp2_with (first
    | ((with_reducible show wpList _ _ _ _ _ w); refine wpList_boxS rfl 28 _ rfl cs rfl ?_; intro g1 w1 hk1 hb1 hg1; go_frame; have C1 := Lib.hid hk1; have B1 := Lib.hid hb1; have G1 := Lib.hid hg1; clear hk1 hb1 hg1)
    | ((with_reducible show wpList _ _ _ _ _ w1); refine wpList_loadS rfl 28 _ rfl g1 rfl cs C1.out _ Tryd.underlying28 rfl (by rw [HLEN.out]; exact infoCall) ?_; go_frame)
    | fail)
  refine (HM.out _ B1.out).mono ?_
  rintro e w2 ⟨rfl, hb⟩
  have hc := C1.out.below hb C1.out.lt
  rw [← HA.out] at hc
  obtain ⟨p0, p1, p2, p3, p4, p5, p6, p7, p8, p9, p10, p11, p12⟩ := Cs.calX hc
  have C2 := Lib.hid hc
  have B2 := Lib.hid (below_chain B1.out hb)
  clear hc hb
  go_wp2_with fail
  clear p0 p1 p2 p3 p4 p5 p6 p7 p8 p9 p10 p11 p12
  refine (qNumber c1 (by have := HO.out.1; omega) _).mono ?_
  rintro e w3 ⟨u3, rfl, hox, hb⟩
  obtain ⟨A3, N3, n3, rfl, -⟩ := own_slice hox
  have hs : AppS w2 (.slice A3 N3 n3) (beL (c1 : Int) 4) w3 := AppS.start hox hb
  obtain ⟨p0, p1, p2, p3, p4, p5, p6, p7, p8, p9, p10, p11, p12⟩ := Cs.calX (C2.out.below hb C2.out.lt)
  have S3 := Lib.hid hs
  clear hox hb hs
  go_wp2_with fail
  clear p0 p1 p2 p3 p4 p5 p6 p7 p8 p9 p10 p11 p12
  refine (qNumber c2 HO.out.2.1 _).mono ?_
  rintro e w4 ⟨u4, rfl, hox, hb⟩
  obtain ⟨Ax4, cx4, rfl, hrx, hAx⟩ := own_len hox rfl
  have hs := S3.out.below hb
  have S4 := Lib.hid hs
  have HRX := Lib.hid hrx
  have HAX := Lib.hid hAx
  clear hox hb hrx hAx hs
  go_wp2_with (at_builtin; refine append_to rfl (.tmp 12) (.tmp 15) rfl w2.heap.size _ _ _ rfl S4.out.1 Ax4 (beL (c2 : Int) 4) _ cx4 rfl rfl HRX.out HAX.out (by (try simp only [List.length_append, beL_length, bytesX_length]); have := padN_lt c13.length; have := padN_lt (L c7).length; have := padN_lt (L c10).length; obtain ⟨f1, f2, f3⟩ := HFIT.out; omega) S4.out.2.size ?_; intro v5 w5 ho hg hto; obtain ⟨A5, N5, n5, rfl, -⟩ := own_slice ho; have S5 := Lib.hid (S4.out.app ho hg); clear ho hg hto; obtain ⟨p0, p1, p2, p3, p4, p5, p6, p7, p8, p9, p10, p11, p12⟩ := Cs.calX (C2.out.below S5.out.2 C2.out.lt))
  clear p0 p1 p2 p3 p4 p5 p6 p7 p8 p9 p10 p11 p12
  refine (qGreat c3 HO.out.2.2.1 _).mono ?_
  rintro e w6 ⟨u6, rfl, hox, hb⟩
  obtain ⟨Ax6, cx6, rfl, hrx, hAx⟩ := own_len hox rfl
  have hs := S5.out.below hb
  have S6 := Lib.hid hs
  have HRX := Lib.hid hrx
  have HAX := Lib.hid hAx
  clear hox hb hrx hAx hs
  go_wp2_with (at_builtin; refine append_to rfl (.tmp 17) (.tmp 20) rfl w2.heap.size _ _ _ rfl S6.out.1 Ax6 (beL (c3 : Int) 8) _ cx6 rfl rfl HRX.out HAX.out (by (try simp only [List.length_append, beL_length, bytesX_length]); have := padN_lt c13.length; have := padN_lt (L c7).length; have := padN_lt (L c10).length; obtain ⟨f1, f2, f3⟩ := HFIT.out; omega) S6.out.2.size ?_; intro v7 w7 ho hg hto; obtain ⟨A7, N7, n7, rfl, -⟩ := own_slice ho; have S7 := Lib.hid (S6.out.app ho hg); clear ho hg hto; obtain ⟨p0, p1, p2, p3, p4, p5, p6, p7, p8, p9, p10, p11, p12⟩ := Cs.calX (C2.out.below S7.out.2 C2.out.lt))
  clear p0 p1 p2 p3 p4 p5 p6 p7 p8 p9 p10 p11 p12
  refine (qNumber 8 (by decide) _).mono ?_
  rintro e w8 ⟨u8, rfl, hox, hb⟩
  obtain ⟨Ax8, cx8, rfl, hrx, hAx⟩ := own_len hox rfl
  have hs := S7.out.below hb
  have S8 := Lib.hid hs
  have HRX := Lib.hid hrx
  have HAX := Lib.hid hAx
  clear hox hb hrx hAx hs
  go_wp2_with (at_builtin; refine append_to rfl (.tmp 22) (.tmp 26) rfl w2.heap.size _ _ _ rfl S8.out.1 Ax8 (beL ((8 : Nat) : Int) 4) _ cx8 rfl rfl HRX.out HAX.out (by (try simp only [List.length_append, beL_length, bytesX_length]); have := padN_lt c13.length; have := padN_lt (L c7).length; have := padN_lt (L c10).length; obtain ⟨f1, f2, f3⟩ := HFIT.out; omega) S8.out.2.size ?_; intro v9 w9 ho hg hto; obtain ⟨A9, N9, n9, rfl, -⟩ := own_slice ho; have S9 := Lib.hid (S8.out.app ho hg); clear ho hg hto; obtain ⟨p0, p1, p2, p3, p4, p5, p6, p7, p8, p9, p10, p11, p12⟩ := Cs.calX (C2.out.below S9.out.2 C2.out.lt))
  clear p0 p1 p2 p3 p4 p5 p6 p7 p8 p9 p10 p11 p12
  refine (handle_q S9.out.1 S9.out.2.size c5 c6 HO.out.2.2.2.1 HO.out.2.2.2.2.1 (by (try simp only [List.length_append, beL_length, bytesX_length]); have := padN_lt c13.length; have := padN_lt (L c7).length; have := padN_lt (L c10).length; obtain ⟨f1, f2, f3⟩ := HFIT.out; omega)).mono ?_
  rintro e w10 ⟨u10, rfl, ho, ht⟩
  obtain ⟨A10, N10, n10, rfl, -⟩ := own_slice ho
  have hs : AppS w2 (.slice A10 N10 n10) (beL (c1 : Int) 4 ++ beL (c2 : Int) 4 ++ beL (c3 : Int) 8 ++ beL ((8 : Nat) : Int) 4 ++ beL (c5 : Int) 4 ++ beL (c6 : Int) 4) w10 := S9.out.turn ho ht
  have S10 := Lib.hid hs
  obtain ⟨p0, p1, p2, p3, p4, p5, p6, p7, p8, p9, p10, p11, p12⟩ := Cs.calX (C2.out.below S10.out.2 C2.out.lt)
  clear hs ho ht
  obtain ⟨W10, q10, hcv10, hbw, hszw, hbv⟩ := conv_str c7 (by rw [L_size]; obtain ⟨f1, f2, f3⟩ := HFIT.out; omega) w10
  have BW10 := Lib.hid hbw
  have RT10 := Lib.hid hbv.rdC
  clear hbw hszw hbv
  go_wp2_with fail
  clear p0 p1 p2 p3 p4 p5 p6 p7 p8 p9 p10 p11 p12
  refine (qBytes (L c7) (some ⟨w10.heap.size, 0, none⟩) q10 _ (by obtain ⟨f1, f2, f3⟩ := HFIT.out; omega) RT10.out (fun h => by cases h)).mono ?_
  rintro e w11 ⟨u11, rfl, hox, hb⟩
  obtain ⟨Ax11, cx11, rfl, hrx, hAx⟩ := own_len hox rfl
  have hs := (S10.out.below BW10.out).below hb
  have S11 := Lib.hid hs
  have HRX := Lib.hid hrx
  have HAX := Lib.hid hAx
  clear hox hb hrx hAx hs
  go_wp2_with (at_builtin; refine append_to rfl (.tmp 47) (.tmp 51) rfl w2.heap.size _ _ _ rfl S11.out.1 Ax11 (bytesX (L c7)) _ cx11 rfl rfl HRX.out HAX.out (by (try simp only [List.length_append, beL_length, bytesX_length]); have := padN_lt c13.length; have := padN_lt (L c7).length; have := padN_lt (L c10).length; obtain ⟨f1, f2, f3⟩ := HFIT.out; omega) S11.out.2.size ?_; intro v12 w12 ho hg hto; obtain ⟨A12, N12, n12, rfl, -⟩ := own_slice ho; have S12 := Lib.hid (S11.out.app ho hg); clear ho hg hto; obtain ⟨p0, p1, p2, p3, p4, p5, p6, p7, p8, p9, p10, p11, p12⟩ := Cs.calX (C2.out.below S12.out.2 C2.out.lt))
  go_ret2
  exact ⟨_, rfl, (BsV.own S12.out.1).mono fun k _ hk => Nat.le_trans B2.out.size hk, B2.out.trans (S12.out.2.mono B2.out.size)⟩
set_option maxHeartbeats 16000000 in
theorem putR_9 (c1 c2 c3 c5 c6 : Nat) (c7 : ByteArray) (c8 c9 : Nat) (c10 : ByteArray) (c11 c12 : Nat) (c13 : List UInt8) {F : Nat → Prop} {A : Option Addr} {cp : Nat} {w : World} (h : CalV w F (CX c1 c2 c3 9 c5 c6 c7 c8 c9 c10 c11 c12 c13) (.slice A c13.length cp)) (hm : mayX (CX c1 c2 c3 9 c5 c6 c7 c8 c9 c10 c11 c12 c13) = true) : Calls Tryd.prog 8 #[.agg (calCells (CX c1 c2 c3 9 c5 c6 c7 c8 c9 c10 c11 c12 c13) (.slice A c13.length cp)).toArray] w fun e w' => ∃ v, e = .returned (.tuple #[v, .int .i64 0]) ∧ BsV w' (w.heap.size ≤ ·) v (beL (c1 : Int) 4 ++ beL (c2 : Int) 4 ++ beL (c3 : Int) 8 ++ beL ((9 : Nat) : Int) 4 ++ beL (c5 : Int) 4 ++ beL (c6 : Int) 4 ++ bytesX (L c7)) ∧ Below w.heap.size w w' := by
  have HM := Lib.hid fun u (hb : Below w.heap.size w u) => MayR_v (h.below hb)
  rw [hm] at HM
  obtain ⟨-, f1, f2, f3⟩ := mayX_fit hm
  dsimp only [CX] at f1 f2 f3
  obtain ⟨o1, o2, o3, o4, o5, o6, o7, o8, o9, o10⟩ := h.2
  dsimp only [CX] at o1 o2 o3 o4 o5 o6 o7 o8 o9 o10
  have hrd := h.1.rdC
  have hnil : A = none → c13 = [] ∧ cp = 0 := by obtain ⟨A', c', e, -, e2, -⟩ := h.1; cases e; exact e2
  have HD := Lib.hid hrd
  have HNIL := Lib.hid hnil
  have HFIT := Lib.hid (And.intro f1 (And.intro f2 f3))
  have i1 : (c1 : Int) ≤ 255 := by omega
  have HO := Lib.hid (And.intro o1 (And.intro o2 (And.intro o3 (And.intro o5 (And.intro o6 (And.intro o7 (And.intro o8 (And.intro o9 o10))))))))
  clear h hm f1 f2 f3 o1 o2 o3 o4 o5 o6 o7 o8 o9 o10 hrd hnil
  generalize hA : calCells (CX c1 c2 c3 9 c5 c6 c7 c8 c9 c10 c11 c12 c13) (.slice A c13.length cp) = cs at *
  have HA := Lib.hid hA
  have hlen : cs.length = 13 := by rw [← hA]; rfl
  have HLEN := Lib.hid hlen
  clear hA hlen
  go_enter Tryd.func8, Tryd.ntmps8
  go_wp2_with (first
    | ((with_reducible show wpList _ _ _ _ _ w); refine wpList_boxS rfl 28 _ rfl cs rfl ?_; intro g1 w1 hk1 hb1 hg1; go_frame; have C1 := Lib.hid hk1; have B1 := Lib.hid hb1; have G1 := Lib.hid hg1; clear hk1 hb1 hg1)
    | ((with_reducible show wpList _ _ _ _ _ w1); refine wpList_loadS rfl 28 _ rfl g1 rfl cs C1.out _ Tryd.underlying28 rfl (by rw [HLEN.out]; exact infoCall) ?_; go_frame)
    | fail)
  refine (HM.out _ B1.out).mono ?_
  rintro e w2 ⟨rfl, hb⟩
  have hc := C1.out.below hb C1.out.lt
  rw [← HA.out] at hc
  obtain ⟨p0, p1, p2, p3, p4, p5, p6, p7, p8, p9, p10, p11, p12⟩ := Cs.calX hc
  have C2 := Lib.hid hc
  have B2 := Lib.hid (below_chain B1.out hb)
  clear hc hb
  go_wp2_with fail
  clear p0 p1 p2 p3 p4 p5 p6 p7 p8 p9 p10 p11 p12
  refine (qNumber c1 (by have := HO.out.1; omega) _).mono ?_
  rintro e w3 ⟨u3, rfl, hox, hb⟩
  obtain ⟨A3, N3, n3, rfl, -⟩ := own_slice hox
  have hs : AppS w2 (.slice A3 N3 n3) (beL (c1 : Int) 4) w3 := AppS.start hox hb
  obtain ⟨p0, p1, p2, p3, p4, p5, p6, p7, p8, p9, p10, p11, p12⟩ := Cs.calX (C2.out.below hb C2.out.lt)
  have S3 := Lib.hid hs
  clear hox hb hs
  go_wp2_with fail
  clear p0 p1 p2 p3 p4 p5 p6 p7 p8 p9 p10 p11 p12
  refine (qNumber c2 HO.out.2.1 _).mono ?_
  rintro e w4 ⟨u4, rfl, hox, hb⟩
  obtain ⟨Ax4, cx4, rfl, hrx, hAx⟩ := own_len hox rfl
  have hs := S3.out.below hb
  have S4 := Lib.hid hs
  have HRX := Lib.hid hrx
  have HAX := Lib.hid hAx
  clear hox hb hrx hAx hs
  go_wp2_with (at_builtin; refine append_to rfl (.tmp 12) (.tmp 15) rfl w2.heap.size _ _ _ rfl S4.out.1 Ax4 (beL (c2 : Int) 4) _ cx4 rfl rfl HRX.out HAX.out (by (try simp only [List.length_append, beL_length, bytesX_length]); have := padN_lt c13.length; have := padN_lt (L c7).length; have := padN_lt (L c10).length; obtain ⟨f1, f2, f3⟩ := HFIT.out; omega) S4.out.2.size ?_; intro v5 w5 ho hg hto; obtain ⟨A5, N5, n5, rfl, -⟩ := own_slice ho; have S5 := Lib.hid (S4.out.app ho hg); clear ho hg hto; obtain ⟨p0, p1, p2, p3, p4, p5, p6, p7, p8, p9, p10, p11, p12⟩ := Cs.calX (C2.out.below S5.out.2 C2.out.lt))
  clear p0 p1 p2 p3 p4 p5 p6 p7 p8 p9 p10 p11 p12
  refine (qGreat c3 HO.out.2.2.1 _).mono ?_
  rintro e w6 ⟨u6, rfl, hox, hb⟩
  obtain ⟨Ax6, cx6, rfl, hrx, hAx⟩ := own_len hox rfl
  have hs := S5.out.below hb
  have S6 := Lib.hid hs
  have HRX := Lib.hid hrx
  have HAX := Lib.hid hAx
  clear hox hb hrx hAx hs
  go_wp2_with (at_builtin; refine append_to rfl (.tmp 17) (.tmp 20) rfl w2.heap.size _ _ _ rfl S6.out.1 Ax6 (beL (c3 : Int) 8) _ cx6 rfl rfl HRX.out HAX.out (by (try simp only [List.length_append, beL_length, bytesX_length]); have := padN_lt c13.length; have := padN_lt (L c7).length; have := padN_lt (L c10).length; obtain ⟨f1, f2, f3⟩ := HFIT.out; omega) S6.out.2.size ?_; intro v7 w7 ho hg hto; obtain ⟨A7, N7, n7, rfl, -⟩ := own_slice ho; have S7 := Lib.hid (S6.out.app ho hg); clear ho hg hto; obtain ⟨p0, p1, p2, p3, p4, p5, p6, p7, p8, p9, p10, p11, p12⟩ := Cs.calX (C2.out.below S7.out.2 C2.out.lt))
  clear p0 p1 p2 p3 p4 p5 p6 p7 p8 p9 p10 p11 p12
  refine (qNumber 9 (by decide) _).mono ?_
  rintro e w8 ⟨u8, rfl, hox, hb⟩
  obtain ⟨Ax8, cx8, rfl, hrx, hAx⟩ := own_len hox rfl
  have hs := S7.out.below hb
  have S8 := Lib.hid hs
  have HRX := Lib.hid hrx
  have HAX := Lib.hid hAx
  clear hox hb hrx hAx hs
  go_wp2_with (at_builtin; refine append_to rfl (.tmp 22) (.tmp 26) rfl w2.heap.size _ _ _ rfl S8.out.1 Ax8 (beL ((9 : Nat) : Int) 4) _ cx8 rfl rfl HRX.out HAX.out (by (try simp only [List.length_append, beL_length, bytesX_length]); have := padN_lt c13.length; have := padN_lt (L c7).length; have := padN_lt (L c10).length; obtain ⟨f1, f2, f3⟩ := HFIT.out; omega) S8.out.2.size ?_; intro v9 w9 ho hg hto; obtain ⟨A9, N9, n9, rfl, -⟩ := own_slice ho; have S9 := Lib.hid (S8.out.app ho hg); clear ho hg hto; obtain ⟨p0, p1, p2, p3, p4, p5, p6, p7, p8, p9, p10, p11, p12⟩ := Cs.calX (C2.out.below S9.out.2 C2.out.lt))
  clear p0 p1 p2 p3 p4 p5 p6 p7 p8 p9 p10 p11 p12
  refine (handle_q S9.out.1 S9.out.2.size c5 c6 HO.out.2.2.2.1 HO.out.2.2.2.2.1 (by (try simp only [List.length_append, beL_length, bytesX_length]); have := padN_lt c13.length; have := padN_lt (L c7).length; have := padN_lt (L c10).length; obtain ⟨f1, f2, f3⟩ := HFIT.out; omega)).mono ?_
  rintro e w10 ⟨u10, rfl, ho, ht⟩
  obtain ⟨A10, N10, n10, rfl, -⟩ := own_slice ho
  have hs : AppS w2 (.slice A10 N10 n10) (beL (c1 : Int) 4 ++ beL (c2 : Int) 4 ++ beL (c3 : Int) 8 ++ beL ((9 : Nat) : Int) 4 ++ beL (c5 : Int) 4 ++ beL (c6 : Int) 4) w10 := S9.out.turn ho ht
  have S10 := Lib.hid hs
  obtain ⟨p0, p1, p2, p3, p4, p5, p6, p7, p8, p9, p10, p11, p12⟩ := Cs.calX (C2.out.below S10.out.2 C2.out.lt)
  clear hs ho ht
  obtain ⟨W10, q10, hcv10, hbw, hszw, hbv⟩ := conv_str c7 (by rw [L_size]; obtain ⟨f1, f2, f3⟩ := HFIT.out; omega) w10
  have BW10 := Lib.hid hbw
  have RT10 := Lib.hid hbv.rdC
  clear hbw hszw hbv
  go_wp2_with fail
  clear p0 p1 p2 p3 p4 p5 p6 p7 p8 p9 p10 p11 p12
  refine (qBytes (L c7) (some ⟨w10.heap.size, 0, none⟩) q10 _ (by obtain ⟨f1, f2, f3⟩ := HFIT.out; omega) RT10.out (fun h => by cases h)).mono ?_
  rintro e w11 ⟨u11, rfl, hox, hb⟩
  obtain ⟨Ax11, cx11, rfl, hrx, hAx⟩ := own_len hox rfl
  have hs := (S10.out.below BW10.out).below hb
  have S11 := Lib.hid hs
  have HRX := Lib.hid hrx
  have HAX := Lib.hid hAx
  clear hox hb hrx hAx hs
  go_wp2_with (at_builtin; refine append_to rfl (.tmp 47) (.tmp 51) rfl w2.heap.size _ _ _ rfl S11.out.1 Ax11 (bytesX (L c7)) _ cx11 rfl rfl HRX.out HAX.out (by (try simp only [List.length_append, beL_length, bytesX_length]); have := padN_lt c13.length; have := padN_lt (L c7).length; have := padN_lt (L c10).length; obtain ⟨f1, f2, f3⟩ := HFIT.out; omega) S11.out.2.size ?_; intro v12 w12 ho hg hto; obtain ⟨A12, N12, n12, rfl, -⟩ := own_slice ho; have S12 := Lib.hid (S11.out.app ho hg); clear ho hg hto; obtain ⟨p0, p1, p2, p3, p4, p5, p6, p7, p8, p9, p10, p11, p12⟩ := Cs.calX (C2.out.below S12.out.2 C2.out.lt))
  go_ret2
  exact ⟨_, rfl, (BsV.own S12.out.1).mono fun k _ hk => Nat.le_trans B2.out.size hk, B2.out.trans (S12.out.2.mono B2.out.size)⟩
set_option maxHeartbeats 16000000 in
theorem putR_10 (c1 c2 c3 c5 c6 : Nat) (c7 : ByteArray) (c8 c9 : Nat) (c10 : ByteArray) (c11 c12 : Nat) (c13 : List UInt8) {F : Nat → Prop} {A : Option Addr} {cp : Nat} {w : World} (h : CalV w F (CX c1 c2 c3 10 c5 c6 c7 c8 c9 c10 c11 c12 c13) (.slice A c13.length cp)) (hm : mayX (CX c1 c2 c3 10 c5 c6 c7 c8 c9 c10 c11 c12 c13) = true) : Calls Tryd.prog 8 #[.agg (calCells (CX c1 c2 c3 10 c5 c6 c7 c8 c9 c10 c11 c12 c13) (.slice A c13.length cp)).toArray] w fun e w' => ∃ v, e = .returned (.tuple #[v, .int .i64 0]) ∧ BsV w' (w.heap.size ≤ ·) v (beL (c1 : Int) 4 ++ beL (c2 : Int) 4 ++ beL (c3 : Int) 8 ++ beL ((10 : Nat) : Int) 4 ++ beL (c5 : Int) 4 ++ beL (c6 : Int) 4 ++ bytesX (L c7)) ∧ Below w.heap.size w w' := by
  have HM := Lib.hid fun u (hb : Below w.heap.size w u) => MayR_v (h.below hb)
  rw [hm] at HM
  obtain ⟨-, f1, f2, f3⟩ := mayX_fit hm
  dsimp only [CX] at f1 f2 f3
  obtain ⟨o1, o2, o3, o4, o5, o6, o7, o8, o9, o10⟩ := h.2
  dsimp only [CX] at o1 o2 o3 o4 o5 o6 o7 o8 o9 o10
  have hrd := h.1.rdC
  have hnil : A = none → c13 = [] ∧ cp = 0 := by obtain ⟨A', c', e, -, e2, -⟩ := h.1; cases e; exact e2
  have HD := Lib.hid hrd
  have HNIL := Lib.hid hnil
  have HFIT := Lib.hid (And.intro f1 (And.intro f2 f3))
  have i1 : (c1 : Int) ≤ 255 := by omega
  have HO := Lib.hid (And.intro o1 (And.intro o2 (And.intro o3 (And.intro o5 (And.intro o6 (And.intro o7 (And.intro o8 (And.intro o9 o10))))))))
  clear h hm f1 f2 f3 o1 o2 o3 o4 o5 o6 o7 o8 o9 o10 hrd hnil
  generalize hA : calCells (CX c1 c2 c3 10 c5 c6 c7 c8 c9 c10 c11 c12 c13) (.slice A c13.length cp) = cs at *
  have HA := Lib.hid hA
  have hlen : cs.length = 13 := by rw [← hA]; rfl
  have HLEN := Lib.hid hlen
  clear hA hlen
  go_enter Tryd.func8, Tryd.ntmps8
  go_wp2_with (first
    | ((with_reducible show wpList _ _ _ _ _ w); refine wpList_boxS rfl 28 _ rfl cs rfl ?_; intro g1 w1 hk1 hb1 hg1; go_frame; have C1 := Lib.hid hk1; have B1 := Lib.hid hb1; have G1 := Lib.hid hg1; clear hk1 hb1 hg1)
    | ((with_reducible show wpList _ _ _ _ _ w1); refine wpList_loadS rfl 28 _ rfl g1 rfl cs C1.out _ Tryd.underlying28 rfl (by rw [HLEN.out]; exact infoCall) ?_; go_frame)
    | fail)
  refine (HM.out _ B1.out).mono ?_
  rintro e w2 ⟨rfl, hb⟩
  have hc := C1.out.below hb C1.out.lt
  rw [← HA.out] at hc
  obtain ⟨p0, p1, p2, p3, p4, p5, p6, p7, p8, p9, p10, p11, p12⟩ := Cs.calX hc
  have C2 := Lib.hid hc
  have B2 := Lib.hid (below_chain B1.out hb)
  clear hc hb
  go_wp2_with fail
  clear p0 p1 p2 p3 p4 p5 p6 p7 p8 p9 p10 p11 p12
  refine (qNumber c1 (by have := HO.out.1; omega) _).mono ?_
  rintro e w3 ⟨u3, rfl, hox, hb⟩
  obtain ⟨A3, N3, n3, rfl, -⟩ := own_slice hox
  have hs : AppS w2 (.slice A3 N3 n3) (beL (c1 : Int) 4) w3 := AppS.start hox hb
  obtain ⟨p0, p1, p2, p3, p4, p5, p6, p7, p8, p9, p10, p11, p12⟩ := Cs.calX (C2.out.below hb C2.out.lt)
  have S3 := Lib.hid hs
  clear hox hb hs
  go_wp2_with fail
  clear p0 p1 p2 p3 p4 p5 p6 p7 p8 p9 p10 p11 p12
  refine (qNumber c2 HO.out.2.1 _).mono ?_
  rintro e w4 ⟨u4, rfl, hox, hb⟩
  obtain ⟨Ax4, cx4, rfl, hrx, hAx⟩ := own_len hox rfl
  have hs := S3.out.below hb
  have S4 := Lib.hid hs
  have HRX := Lib.hid hrx
  have HAX := Lib.hid hAx
  clear hox hb hrx hAx hs
  go_wp2_with (at_builtin; refine append_to rfl (.tmp 12) (.tmp 15) rfl w2.heap.size _ _ _ rfl S4.out.1 Ax4 (beL (c2 : Int) 4) _ cx4 rfl rfl HRX.out HAX.out (by (try simp only [List.length_append, beL_length, bytesX_length]); have := padN_lt c13.length; have := padN_lt (L c7).length; have := padN_lt (L c10).length; obtain ⟨f1, f2, f3⟩ := HFIT.out; omega) S4.out.2.size ?_; intro v5 w5 ho hg hto; obtain ⟨A5, N5, n5, rfl, -⟩ := own_slice ho; have S5 := Lib.hid (S4.out.app ho hg); clear ho hg hto; obtain ⟨p0, p1, p2, p3, p4, p5, p6, p7, p8, p9, p10, p11, p12⟩ := Cs.calX (C2.out.below S5.out.2 C2.out.lt))
  clear p0 p1 p2 p3 p4 p5 p6 p7 p8 p9 p10 p11 p12
  refine (qGreat c3 HO.out.2.2.1 _).mono ?_
  rintro e w6 ⟨u6, rfl, hox, hb⟩
  obtain ⟨Ax6, cx6, rfl, hrx, hAx⟩ := own_len hox rfl
  have hs := S5.out.below hb
  have S6 := Lib.hid hs
  have HRX := Lib.hid hrx
  have HAX := Lib.hid hAx
  clear hox hb hrx hAx hs
  go_wp2_with (at_builtin; refine append_to rfl (.tmp 17) (.tmp 20) rfl w2.heap.size _ _ _ rfl S6.out.1 Ax6 (beL (c3 : Int) 8) _ cx6 rfl rfl HRX.out HAX.out (by (try simp only [List.length_append, beL_length, bytesX_length]); have := padN_lt c13.length; have := padN_lt (L c7).length; have := padN_lt (L c10).length; obtain ⟨f1, f2, f3⟩ := HFIT.out; omega) S6.out.2.size ?_; intro v7 w7 ho hg hto; obtain ⟨A7, N7, n7, rfl, -⟩ := own_slice ho; have S7 := Lib.hid (S6.out.app ho hg); clear ho hg hto; obtain ⟨p0, p1, p2, p3, p4, p5, p6, p7, p8, p9, p10, p11, p12⟩ := Cs.calX (C2.out.below S7.out.2 C2.out.lt))
  clear p0 p1 p2 p3 p4 p5 p6 p7 p8 p9 p10 p11 p12
  refine (qNumber 10 (by decide) _).mono ?_
  rintro e w8 ⟨u8, rfl, hox, hb⟩
  obtain ⟨Ax8, cx8, rfl, hrx, hAx⟩ := own_len hox rfl
  have hs := S7.out.below hb
  have S8 := Lib.hid hs
  have HRX := Lib.hid hrx
  have HAX := Lib.hid hAx
  clear hox hb hrx hAx hs
  go_wp2_with (at_builtin; refine append_to rfl (.tmp 22) (.tmp 26) rfl w2.heap.size _ _ _ rfl S8.out.1 Ax8 (beL ((10 : Nat) : Int) 4) _ cx8 rfl rfl HRX.out HAX.out (by (try simp only [List.length_append, beL_length, bytesX_length]); have := padN_lt c13.length; have := padN_lt (L c7).length; have := padN_lt (L c10).length; obtain ⟨f1, f2, f3⟩ := HFIT.out; omega) S8.out.2.size ?_; intro v9 w9 ho hg hto; obtain ⟨A9, N9, n9, rfl, -⟩ := own_slice ho; have S9 := Lib.hid (S8.out.app ho hg); clear ho hg hto; obtain ⟨p0, p1, p2, p3, p4, p5, p6, p7, p8, p9, p10, p11, p12⟩ := Cs.calX (C2.out.below S9.out.2 C2.out.lt))
  clear p0 p1 p2 p3 p4 p5 p6 p7 p8 p9 p10 p11 p12
  refine (handle_q S9.out.1 S9.out.2.size c5 c6 HO.out.2.2.2.1 HO.out.2.2.2.2.1 (by (try simp only [List.length_append, beL_length, bytesX_length]); have := padN_lt c13.length; have := padN_lt (L c7).length; have := padN_lt (L c10).length; obtain ⟨f1, f2, f3⟩ := HFIT.out; omega)).mono ?_
  rintro e w10 ⟨u10, rfl, ho, ht⟩
  obtain ⟨A10, N10, n10, rfl, -⟩ := own_slice ho
  have hs : AppS w2 (.slice A10 N10 n10) (beL (c1 : Int) 4 ++ beL (c2 : Int) 4 ++ beL (c3 : Int) 8 ++ beL ((10 : Nat) : Int) 4 ++ beL (c5 : Int) 4 ++ beL (c6 : Int) 4) w10 := S9.out.turn ho ht
  have S10 := Lib.hid hs
  obtain ⟨p0, p1, p2, p3, p4, p5, p6, p7, p8, p9, p10, p11, p12⟩ := Cs.calX (C2.out.below S10.out.2 C2.out.lt)
  clear hs ho ht
  obtain ⟨W10, q10, hcv10, hbw, hszw, hbv⟩ := conv_str c7 (by rw [L_size]; obtain ⟨f1, f2, f3⟩ := HFIT.out; omega) w10
  have BW10 := Lib.hid hbw
  have RT10 := Lib.hid hbv.rdC
  clear hbw hszw hbv
  go_wp2_with fail
  clear p0 p1 p2 p3 p4 p5 p6 p7 p8 p9 p10 p11 p12
  refine (qBytes (L c7) (some ⟨w10.heap.size, 0, none⟩) q10 _ (by obtain ⟨f1, f2, f3⟩ := HFIT.out; omega) RT10.out (fun h => by cases h)).mono ?_
  rintro e w11 ⟨u11, rfl, hox, hb⟩
  obtain ⟨Ax11, cx11, rfl, hrx, hAx⟩ := own_len hox rfl
  have hs := (S10.out.below BW10.out).below hb
  have S11 := Lib.hid hs
  have HRX := Lib.hid hrx
  have HAX := Lib.hid hAx
  clear hox hb hrx hAx hs
  go_wp2_with (at_builtin; refine append_to rfl (.tmp 47) (.tmp 51) rfl w2.heap.size _ _ _ rfl S11.out.1 Ax11 (bytesX (L c7)) _ cx11 rfl rfl HRX.out HAX.out (by (try simp only [List.length_append, beL_length, bytesX_length]); have := padN_lt c13.length; have := padN_lt (L c7).length; have := padN_lt (L c10).length; obtain ⟨f1, f2, f3⟩ := HFIT.out; omega) S11.out.2.size ?_; intro v12 w12 ho hg hto; obtain ⟨A12, N12, n12, rfl, -⟩ := own_slice ho; have S12 := Lib.hid (S11.out.app ho hg); clear ho hg hto; obtain ⟨p0, p1, p2, p3, p4, p5, p6, p7, p8, p9, p10, p11, p12⟩ := Cs.calX (C2.out.below S12.out.2 C2.out.lt))
  go_ret2
  exact ⟨_, rfl, (BsV.own S12.out.1).mono fun k _ hk => Nat.le_trans B2.out.size hk, B2.out.trans (S12.out.2.mono B2.out.size)⟩
set_option maxHeartbeats 16000000 in
theorem putR_11 (c1 c2 c3 c5 c6 : Nat) (c7 : ByteArray) (c8 c9 : Nat) (c10 : ByteArray) (c11 c12 : Nat) (c13 : List UInt8) {F : Nat → Prop} {A : Option Addr} {cp : Nat} {w : World} (h : CalV w F (CX c1 c2 c3 11 c5 c6 c7 c8 c9 c10 c11 c12 c13) (.slice A c13.length cp)) (hm : mayX (CX c1 c2 c3 11 c5 c6 c7 c8 c9 c10 c11 c12 c13) = true) : Calls Tryd.prog 8 #[.agg (calCells (CX c1 c2 c3 11 c5 c6 c7 c8 c9 c10 c11 c12 c13) (.slice A c13.length cp)).toArray] w fun e w' => ∃ v, e = .returned (.tuple #[v, .int .i64 0]) ∧ BsV w' (w.heap.size ≤ ·) v (beL (c1 : Int) 4 ++ beL (c2 : Int) 4 ++ beL (c3 : Int) 8 ++ beL ((11 : Nat) : Int) 4 ++ beL (c5 : Int) 4 ++ beL (c6 : Int) 4 ++ bytesX (L c7) ++ beL (c8 : Int) 4 ++ beL (c9 : Int) 4 ++ bytesX (L c10)) ∧ Below w.heap.size w w' := by
  have HM := Lib.hid fun u (hb : Below w.heap.size w u) => MayR_v (h.below hb)
  rw [hm] at HM
  obtain ⟨-, f1, f2, f3⟩ := mayX_fit hm
  dsimp only [CX] at f1 f2 f3
  obtain ⟨o1, o2, o3, o4, o5, o6, o7, o8, o9, o10⟩ := h.2
  dsimp only [CX] at o1 o2 o3 o4 o5 o6 o7 o8 o9 o10
  have hrd := h.1.rdC
  have hnil : A = none → c13 = [] ∧ cp = 0 := by obtain ⟨A', c', e, -, e2, -⟩ := h.1; cases e; exact e2
  have HD := Lib.hid hrd
  have HNIL := Lib.hid hnil
  have HFIT := Lib.hid (And.intro f1 (And.intro f2 f3))
  have i1 : (c1 : Int) ≤ 255 := by omega
  have HO := Lib.hid (And.intro o1 (And.intro o2 (And.intro o3 (And.intro o5 (And.intro o6 (And.intro o7 (And.intro o8 (And.intro o9 o10))))))))
  clear h hm f1 f2 f3 o1 o2 o3 o4 o5 o6 o7 o8 o9 o10 hrd hnil
  generalize hA : calCells (CX c1 c2 c3 11 c5 c6 c7 c8 c9 c10 c11 c12 c13) (.slice A c13.length cp) = cs at *
  have HA := Lib.hid hA
  have hlen : cs.length = 13 := by rw [← hA]; rfl
  have HLEN := Lib.hid hlen
  clear hA hlen
  go_enter Tryd.func8, Tryd.ntmps8
  go_wp2_with (first
    | ((with_reducible show wpList _ _ _ _ _ w); refine wpList_boxS rfl 28 _ rfl cs rfl ?_; intro g1 w1 hk1 hb1 hg1; go_frame; have C1 := Lib.hid hk1; have B1 := Lib.hid hb1; have G1 := Lib.hid hg1; clear hk1 hb1 hg1)
    | ((with_reducible show wpList _ _ _ _ _ w1); refine wpList_loadS rfl 28 _ rfl g1 rfl cs C1.out _ Tryd.underlying28 rfl (by rw [HLEN.out]; exact infoCall) ?_; go_frame)
    | fail)
  refine (HM.out _ B1.out).mono ?_
  rintro e w2 ⟨rfl, hb⟩
  have hc := C1.out.below hb C1.out.lt
  rw [← HA.out] at hc
  obtain ⟨p0, p1, p2, p3, p4, p5, p6, p7, p8, p9, p10, p11, p12⟩ := Cs.calX hc
  have C2 := Lib.hid hc
  have B2 := Lib.hid (below_chain B1.out hb)
  clear hc hb
  go_wp2_with fail
  clear p0 p1 p2 p3 p4 p5 p6 p7 p8 p9 p10 p11 p12
  refine (qNumber c1 (by have := HO.out.1; omega) _).mono ?_
  rintro e w3 ⟨u3, rfl, hox, hb⟩
  obtain ⟨A3, N3, n3, rfl, -⟩ := own_slice hox
  have hs : AppS w2 (.slice A3 N3 n3) (beL (c1 : Int) 4) w3 := AppS.start hox hb
  obtain ⟨p0, p1, p2, p3, p4, p5, p6, p7, p8, p9, p10, p11, p12⟩ := Cs.calX (C2.out.below hb C2.out.lt)
  have S3 := Lib.hid hs
  clear hox hb hs
  go_wp2_with fail
  clear p0 p1 p2 p3 p4 p5 p6 p7 p8 p9 p10 p11 p12
  refine (qNumber c2 HO.out.2.1 _).mono ?_
  rintro e w4 ⟨u4, rfl, hox, hb⟩
  obtain ⟨Ax4, cx4, rfl, hrx, hAx⟩ := own_len hox rfl
  have hs := S3.out.below hb
  have S4 := Lib.hid hs
  have HRX := Lib.hid hrx
  have HAX := Lib.hid hAx
  clear hox hb hrx hAx hs
  go_wp2_with (at_builtin; refine append_to rfl (.tmp 12) (.tmp 15) rfl w2.heap.size _ _ _ rfl S4.out.1 Ax4 (beL (c2 : Int) 4) _ cx4 rfl rfl HRX.out HAX.out (by (try simp only [List.length_append, beL_length, bytesX_length]); have := padN_lt c13.length; have := padN_lt (L c7).length; have := padN_lt (L c10).length; obtain ⟨f1, f2, f3⟩ := HFIT.out; omega) S4.out.2.size ?_; intro v5 w5 ho hg hto; obtain ⟨A5, N5, n5, rfl, -⟩ := own_slice ho; have S5 := Lib.hid (S4.out.app ho hg); clear ho hg hto; obtain ⟨p0, p1, p2, p3, p4, p5, p6, p7, p8, p9, p10, p11, p12⟩ := Cs.calX (C2.out.below S5.out.2 C2.out.lt))
  clear p0 p1 p2 p3 p4 p5 p6 p7 p8 p9 p10 p11 p12
  refine (qGreat c3 HO.out.2.2.1 _).mono ?_
  rintro e w6 ⟨u6, rfl, hox, hb⟩
  obtain ⟨Ax6, cx6, rfl, hrx, hAx⟩ := own_len hox rfl
  have hs := S5.out.below hb
  have S6 := Lib.hid hs
  have HRX := Lib.hid hrx
  have HAX := Lib.hid hAx
  clear hox hb hrx hAx hs
  go_wp2_with (at_builtin; refine append_to rfl (.tmp 17) (.tmp 20) rfl w2.heap.size _ _ _ rfl S6.out.1 Ax6 (beL (c3 : Int) 8) _ cx6 rfl rfl HRX.out HAX.out (by (try simp only [List.length_append, beL_length, bytesX_length]); have := padN_lt c13.length; have := padN_lt (L c7).length; have := padN_lt (L c10).length; obtain ⟨f1, f2, f3⟩ := HFIT.out; omega) S6.out.2.size ?_; intro v7 w7 ho hg hto; obtain ⟨A7, N7, n7, rfl, -⟩ := own_slice ho; have S7 := Lib.hid (S6.out.app ho hg); clear ho hg hto; obtain ⟨p0, p1, p2, p3, p4, p5, p6, p7, p8, p9, p10, p11, p12⟩ := Cs.calX (C2.out.below S7.out.2 C2.out.lt))
  clear p0 p1 p2 p3 p4 p5 p6 p7 p8 p9 p10 p11 p12
  refine (qNumber 11 (by decide) _).mono ?_
  rintro e w8 ⟨u8, rfl, hox, hb⟩
  obtain ⟨Ax8, cx8, rfl, hrx, hAx⟩ := own_len hox rfl
  have hs := S7.out.below hb
  have S8 := Lib.hid hs
  have HRX := Lib.hid hrx
  have HAX := Lib.hid hAx
  clear hox hb hrx hAx hs
  go_wp2_with (at_builtin; refine append_to rfl (.tmp 22) (.tmp 26) rfl w2.heap.size _ _ _ rfl S8.out.1 Ax8 (beL ((11 : Nat) : Int) 4) _ cx8 rfl rfl HRX.out HAX.out (by (try simp only [List.length_append, beL_length, bytesX_length]); have := padN_lt c13.length; have := padN_lt (L c7).length; have := padN_lt (L c10).length; obtain ⟨f1, f2, f3⟩ := HFIT.out; omega) S8.out.2.size ?_; intro v9 w9 ho hg hto; obtain ⟨A9, N9, n9, rfl, -⟩ := own_slice ho; have S9 := Lib.hid (S8.out.app ho hg); clear ho hg hto; obtain ⟨p0, p1, p2, p3, p4, p5, p6, p7, p8, p9, p10, p11, p12⟩ := Cs.calX (C2.out.below S9.out.2 C2.out.lt))
  clear p0 p1 p2 p3 p4 p5 p6 p7 p8 p9 p10 p11 p12
  refine (handle_q S9.out.1 S9.out.2.size c5 c6 HO.out.2.2.2.1 HO.out.2.2.2.2.1 (by (try simp only [List.length_append, beL_length, bytesX_length]); have := padN_lt c13.length; have := padN_lt (L c7).length; have := padN_lt (L c10).length; obtain ⟨f1, f2, f3⟩ := HFIT.out; omega)).mono ?_
  rintro e w10 ⟨u10, rfl, ho, ht⟩
  obtain ⟨A10, N10, n10, rfl, -⟩ := own_slice ho
  have hs : AppS w2 (.slice A10 N10 n10) (beL (c1 : Int) 4 ++ beL (c2 : Int) 4 ++ beL (c3 : Int) 8 ++ beL ((11 : Nat) : Int) 4 ++ beL (c5 : Int) 4 ++ beL (c6 : Int) 4) w10 := S9.out.turn ho ht
  have S10 := Lib.hid hs
  obtain ⟨p0, p1, p2, p3, p4, p5, p6, p7, p8, p9, p10, p11, p12⟩ := Cs.calX (C2.out.below S10.out.2 C2.out.lt)
  clear hs ho ht
  obtain ⟨W10, q10, hcv10, hbw, hszw, hbv⟩ := conv_str c7 (by rw [L_size]; obtain ⟨f1, f2, f3⟩ := HFIT.out; omega) w10
  have BW10 := Lib.hid hbw
  have RT10 := Lib.hid hbv.rdC
  clear hbw hszw hbv
  go_wp2_with fail
  clear p0 p1 p2 p3 p4 p5 p6 p7 p8 p9 p10 p11 p12
  refine (qBytes (L c7) (some ⟨w10.heap.size, 0, none⟩) q10 _ (by obtain ⟨f1, f2, f3⟩ := HFIT.out; omega) RT10.out (fun h => by cases h)).mono ?_
  rintro e w11 ⟨u11, rfl, hox, hb⟩
  obtain ⟨Ax11, cx11, rfl, hrx, hAx⟩ := own_len hox rfl
  have hs := (S10.out.below BW10.out).below hb
  have S11 := Lib.hid hs
  have HRX := Lib.hid hrx
  have HAX := Lib.hid hAx
  clear hox hb hrx hAx hs
  go_wp2_with (at_builtin; refine append_to rfl (.tmp 79) (.tmp 83) rfl w2.heap.size _ _ _ rfl S11.out.1 Ax11 (bytesX (L c7)) _ cx11 rfl rfl HRX.out HAX.out (by (try simp only [List.length_append, beL_length, bytesX_length]); have := padN_lt c13.length; have := padN_lt (L c7).length; have := padN_lt (L c10).length; obtain ⟨f1, f2, f3⟩ := HFIT.out; omega) S11.out.2.size ?_; intro v12 w12 ho hg hto; obtain ⟨A12, N12, n12, rfl, -⟩ := own_slice ho; have S12 := Lib.hid (S11.out.app ho hg); clear ho hg hto; obtain ⟨p0, p1, p2, p3, p4, p5, p6, p7, p8, p9, p10, p11, p12⟩ := Cs.calX (C2.out.below S12.out.2 C2.out.lt))
  clear p0 p1 p2 p3 p4 p5 p6 p7 p8 p9 p10 p11 p12
  refine (handle_q S12.out.1 S12.out.2.size c8 c9 HO.out.2.2.2.2.2.1 HO.out.2.2.2.2.2.2.1 (by (try simp only [List.length_append, beL_length, bytesX_length]); have := padN_lt c13.length; have := padN_lt (L c7).length; have := padN_lt (L c10).length; obtain ⟨f1, f2, f3⟩ := HFIT.out; omega)).mono ?_
  rintro e w13 ⟨u13, rfl, ho, ht⟩
  obtain ⟨A13, N13, n13, rfl, -⟩ := own_slice ho
  have hs : AppS w2 (.slice A13 N13 n13) (beL (c1 : Int) 4 ++ beL (c2 : Int) 4 ++ beL (c3 : Int) 8 ++ beL ((11 : Nat) : Int) 4 ++ beL (c5 : Int) 4 ++ beL (c6 : Int) 4 ++ bytesX (L c7) ++ beL (c8 : Int) 4 ++ beL (c9 : Int) 4) w13 := S12.out.turn ho ht
  have S13 := Lib.hid hs
  obtain ⟨p0, p1, p2, p3, p4, p5, p6, p7, p8, p9, p10, p11, p12⟩ := Cs.calX (C2.out.below S13.out.2 C2.out.lt)
  clear hs ho ht
  obtain ⟨W13, q13, hcv13, hbw, hszw, hbv⟩ := conv_str c10 (by rw [L_size]; obtain ⟨f1, f2, f3⟩ := HFIT.out; omega) w13
  have BW13 := Lib.hid hbw
  have RT13 := Lib.hid hbv.rdC
  clear hbw hszw hbv
  go_wp2_with fail
  clear p0 p1 p2 p3 p4 p5 p6 p7 p8 p9 p10 p11 p12
  refine (qBytes (L c10) (some ⟨w13.heap.size, 0, none⟩) q13 _ (by obtain ⟨f1, f2, f3⟩ := HFIT.out; omega) RT13.out (fun h => by cases h)).mono ?_
  rintro e w14 ⟨u14, rfl, hox, hb⟩
  obtain ⟨Ax14, cx14, rfl, hrx, hAx⟩ := own_len hox rfl
  have hs := (S13.out.below BW13.out).below hb
  have S14 := Lib.hid hs
  have HRX := Lib.hid hrx
  have HAX := Lib.hid hAx
  clear hox hb hrx hAx hs
  go_wp2_with (at_builtin; refine append_to rfl (.tmp 89) (.tmp 93) rfl w2.heap.size _ _ _ rfl S14.out.1 Ax14 (bytesX (L c10)) _ cx14 rfl rfl HRX.out HAX.out (by (try simp only [List.length_append, beL_length, bytesX_length]); have := padN_lt c13.length; have := padN_lt (L c7).length; have := padN_lt (L c10).length; obtain ⟨f1, f2, f3⟩ := HFIT.out; omega) S14.out.2.size ?_; intro v15 w15 ho hg hto; obtain ⟨A15, N15, n15, rfl, -⟩ := own_slice ho; have S15 := Lib.hid (S14.out.app ho hg); clear ho hg hto; obtain ⟨p0, p1, p2, p3, p4, p5, p6, p7, p8, p9, p10, p11, p12⟩ := Cs.calX (C2.out.below S15.out.2 C2.out.lt))
  go_ret2
  exact ⟨_, rfl, (BsV.own S15.out.1).mono fun k _ hk => Nat.le_trans B2.out.size hk, B2.out.trans (S15.out.2.mono B2.out.size)⟩
set_option maxHeartbeats 16000000 in
theorem putR_12 (c1 c2 c3 c5 c6 : Nat) (c7 : ByteArray) (c8 c9 : Nat) (c10 : ByteArray) (c11 c12 : Nat) (c13 : List UInt8) {F : Nat → Prop} {A : Option Addr} {cp : Nat} {w : World} (h : CalV w F (CX c1 c2 c3 12 c5 c6 c7 c8 c9 c10 c11 c12 c13) (.slice A c13.length cp)) (hm : mayX (CX c1 c2 c3 12 c5 c6 c7 c8 c9 c10 c11 c12 c13) = true) : Calls Tryd.prog 8 #[.agg (calCells (CX c1 c2 c3 12 c5 c6 c7 c8 c9 c10 c11 c12 c13) (.slice A c13.length cp)).toArray] w fun e w' => ∃ v, e = .returned (.tuple #[v, .int .i64 0]) ∧ BsV w' (w.heap.size ≤ ·) v (beL (c1 : Int) 4 ++ beL (c2 : Int) 4 ++ beL (c3 : Int) 8 ++ beL ((12 : Nat) : Int) 4 ++ beL (c5 : Int) 4 ++ beL (c6 : Int) 4) ∧ Below w.heap.size w w' := by
  have HM := Lib.hid fun u (hb : Below w.heap.size w u) => MayR_v (h.below hb)
  rw [hm] at HM
  obtain ⟨-, f1, f2, f3⟩ := mayX_fit hm
  dsimp only [CX] at f1 f2 f3
  obtain ⟨o1, o2, o3, o4, o5, o6, o7, o8, o9, o10⟩ := h.2
  dsimp only [CX] at o1 o2 o3 o4 o5 o6 o7 o8 o9 o10
  have hrd := h.1.rdC
  have hnil : A = none → c13 = [] ∧ cp = 0 := by obtain ⟨A', c', e, -, e2, -⟩ := h.1; cases e; exact e2
  have HD := Lib.hid hrd
  have HNIL := Lib.hid hnil
  have HFIT := Lib.hid (And.intro f1 (And.intro f2 f3))
  have i1 : (c1 : Int) ≤ 255 := by omega
  have HO := Lib.hid (And.intro o1 (And.intro o2 (And.intro o3 (And.intro o5 (And.intro o6 (And.intro o7 (And.intro o8 (And.intro o9 o10))))))))
  clear h hm f1 f2 f3 o1 o2 o3 o4 o5 o6 o7 o8 o9 o10 hrd hnil
  generalize hA : calCells (CX c1 c2 c3 12 c5 c6 c7 c8 c9 c10 c11 c12 c13) (.slice A c13.length cp) = cs at *
  have HA := Lib.hid hA
  have hlen : cs.length = 13 := by rw [← hA]; rfl
  have HLEN := Lib.hid hlen
  clear hA hlen
  go_enter Tryd.func8, Tryd.ntmps8
  go_wp2_with (first
    | ((with_reducible show wpList _ _ _ _ _ w); refine wpList_boxS rfl 28 _ rfl cs rfl ?_; intro g1 w1 hk1 hb1 hg1; go_frame; have C1 := Lib.hid hk1; have B1 := Lib.hid hb1; have G1 := Lib.hid hg1; clear hk1 hb1 hg1)
    | ((with_reducible show wpList _ _ _ _ _ w1); refine wpList_loadS rfl 28 _ rfl g1 rfl cs C1.out _ Tryd.underlying28 rfl (by rw [HLEN.out]; exact infoCall) ?_; go_frame)
    | fail)
  refine (HM.out _ B1.out).mono ?_
  rintro e w2 ⟨rfl, hb⟩
  have hc := C1.out.below hb C1.out.lt
  rw [← HA.out] at hc
  obtain ⟨p0, p1, p2, p3, p4, p5, p6, p7, p8, p9, p10, p11, p12⟩ := Cs.calX hc
  have C2 := Lib.hid hc
  have B2 := Lib.hid (below_chain B1.out hb)
  clear hc hb
  go_wp2_with fail
  clear p0 p1 p2 p3 p4 p5 p6 p7 p8 p9 p10 p11 p12
  refine (qNumber c1 (by have := HO.out.1; omega) _).mono ?_
  rintro e w3 ⟨u3, rfl, hox, hb⟩
  obtain ⟨A3, N3, n3, rfl, -⟩ := own_slice hox
  have hs : AppS w2 (.slice A3 N3 n3) (beL (c1 : Int) 4) w3 := AppS.start hox hb
  obtain ⟨p0, p1, p2, p3, p4, p5, p6, p7, p8, p9, p10, p11, p12⟩ := Cs.calX (C2.out.below hb C2.out.lt)
  have S3 := Lib.hid hs
  clear hox hb hs
  go_wp2_with fail
  clear p0 p1 p2 p3 p4 p5 p6 p7 p8 p9 p10 p11 p12
  refine (qNumber c2 HO.out.2.1 _).mono ?_
  rintro e w4 ⟨u4, rfl, hox, hb⟩
  obtain ⟨Ax4, cx4, rfl, hrx, hAx⟩ := own_len hox rfl
  have hs := S3.out.below hb
  have S4 := Lib.hid hs
  have HRX := Lib.hid hrx
  have HAX := Lib.hid hAx
  clear hox hb hrx hAx hs
  go_wp2_with (at_builtin; refine append_to rfl (.tmp 12) (.tmp 15) rfl w2.heap.size _ _ _ rfl S4.out.1 Ax4 (beL (c2 : Int) 4) _ cx4 rfl rfl HRX.out HAX.out (by (try simp only [List.length_append, beL_length, bytesX_length]); have := padN_lt c13.length; have := padN_lt (L c7).length; have := padN_lt (L c10).length; obtain ⟨f1, f2, f3⟩ := HFIT.out; omega) S4.out.2.size ?_; intro v5 w5 ho hg hto; obtain ⟨A5, N5, n5, rfl, -⟩ := own_slice ho; have S5 := Lib.hid (S4.out.app ho hg); clear ho hg hto; obtain ⟨p0, p1, p2, p3, p4, p5, p6, p7, p8, p9, p10, p11, p12⟩ := Cs.calX (C2.out.below S5.out.2 C2.out.lt))
  clear p0 p1 p2 p3 p4 p5 p6 p7 p8 p9 p10 p11 p12
  refine (qGreat c3 HO.out.2.2.1 _).mono ?_
  rintro e w6 ⟨u6, rfl, hox, hb⟩
  obtain ⟨Ax6, cx6, rfl, hrx, hAx⟩ := own_len hox rfl
  have hs := S5.out.below hb
  have S6 := Lib.hid hs
  have HRX := Lib.hid hrx
  have HAX := Lib.hid hAx
  clear hox hb hrx hAx hs
  go_wp2_with (at_builtin; refine append_to rfl (.tmp 17) (.tmp 20) rfl w2.heap.size _ _ _ rfl S6.out.1 Ax6 (beL (c3 : Int) 8) _ cx6 rfl rfl HRX.out HAX.out (by (try simp only [List.length_append, beL_length, bytesX_length]); have := padN_lt c13.length; have := padN_lt (L c7).length; have := padN_lt (L c10).length; obtain ⟨f1, f2, f3⟩ := HFIT.out; omega) S6.out.2.size ?_; intro v7 w7 ho hg hto; obtain ⟨A7, N7, n7, rfl, -⟩ := own_slice ho; have S7 := Lib.hid (S6.out.app ho hg); clear ho hg hto; obtain ⟨p0, p1, p2, p3, p4, p5, p6, p7, p8, p9, p10, p11, p12⟩ := Cs.calX (C2.out.below S7.out.2 C2.out.lt))
  clear p0 p1 p2 p3 p4 p5 p6 p7 p8 p9 p10 p11 p12
  refine (qNumber 12 (by decide) _).mono ?_
  rintro e w8 ⟨u8, rfl, hox, hb⟩
  obtain ⟨Ax8, cx8, rfl, hrx, hAx⟩ := own_len hox rfl
  have hs := S7.out.below hb
  have S8 := Lib.hid hs
  have HRX := Lib.hid hrx
  have HAX := Lib.hid hAx
  clear hox hb hrx hAx hs
  go_wp2_with (at_builtin; refine append_to rfl (.tmp 22) (.tmp 26) rfl w2.heap.size _ _ _ rfl S8.out.1 Ax8 (beL ((12 : Nat) : Int) 4) _ cx8 rfl rfl HRX.out HAX.out (by (try simp only [List.length_append, beL_length, bytesX_length]); have := padN_lt c13.length; have := padN_lt (L c7).length; have := padN_lt (L c10).length; obtain ⟨f1, f2, f3⟩ := HFIT.out; omega) S8.out.2.size ?_; intro v9 w9 ho hg hto; obtain ⟨A9, N9, n9, rfl, -⟩ := own_slice ho; have S9 := Lib.hid (S8.out.app ho hg); clear ho hg hto; obtain ⟨p0, p1, p2, p3, p4, p5, p6, p7, p8, p9, p10, p11, p12⟩ := Cs.calX (C2.out.below S9.out.2 C2.out.lt))
  clear p0 p1 p2 p3 p4 p5 p6 p7 p8 p9 p10 p11 p12
  refine (handle_q S9.out.1 S9.out.2.size c5 c6 HO.out.2.2.2.1 HO.out.2.2.2.2.1 (by (try simp only [List.length_append, beL_length, bytesX_length]); have := padN_lt c13.length; have := padN_lt (L c7).length; have := padN_lt (L c10).length; obtain ⟨f1, f2, f3⟩ := HFIT.out; omega)).mono ?_
  rintro e w10 ⟨u10, rfl, ho, ht⟩
  obtain ⟨A10, N10, n10, rfl, -⟩ := own_slice ho
  have hs : AppS w2 (.slice A10 N10 n10) (beL (c1 : Int) 4 ++ beL (c2 : Int) 4 ++ beL (c3 : Int) 8 ++ beL ((12 : Nat) : Int) 4 ++ beL (c5 : Int) 4 ++ beL (c6 : Int) 4) w10 := S9.out.turn ho ht
  have S10 := Lib.hid hs
  obtain ⟨p0, p1, p2, p3, p4, p5, p6, p7, p8, p9, p10, p11, p12⟩ := Cs.calX (C2.out.below S10.out.2 C2.out.lt)
  clear hs ho ht
  go_wp2_with fail
  go_ret2
  exact ⟨_, rfl, (BsV.own S10.out.1).mono fun k _ hk => Nat.le_trans B2.out.size hk, B2.out.trans (S10.out.2.mono B2.out.size)⟩
set_option maxHeartbeats 8000000 in
theorem PutR_v {F : Nat → Prop} {c : CallX} {v : Value} {w : World} (h : CalV w F c v) : Calls Tryd.prog 8 #[.agg (calCells c v).toArray] w fun e w' => PutR c w e w' := by
  obtain ⟨A, cp, rfl, -⟩ := id h.1
  rcases hm : mayX c with _ | _
  · have HM := Lib.hid fun u (hb : Below w.heap.size w u) => MayR_v (h.below hb)
    rw [hm] at HM
    have HMX := Lib.hid hm
    clear h hm
    generalize hA : calCells c (.slice A c.data.length cp) = cs at *
    have HLEN := Lib.hid (show cs.length = 13 by rw [← hA]; rfl)
    clear hA
    go_enter Tryd.func8, Tryd.ntmps8
    go_wp2_with (first
      | ((with_reducible show wpList _ _ _ _ _ w); refine wpList_boxS rfl 28 _ rfl cs rfl ?_; intro g1 w1 hk1 hb1 hg1; go_frame; have C1 := Lib.hid hk1; have B1 := Lib.hid hb1; clear hk1 hb1 hg1)
      | ((with_reducible show wpList _ _ _ _ _ w1); refine wpList_loadS rfl 28 _ rfl g1 rfl cs C1.out _ Tryd.underlying28 rfl (by rw [HLEN.out]; exact infoCall) ?_; go_frame)
      | fail)
    refine (HM.out _ B1.out).mono ?_
    rintro e w2 ⟨rfl, hb⟩
    have HB2 := Lib.hid (below_chain B1.out hb)
    clear hb
    go_wp2_with fail
    go_ret2
    exact .inl ⟨HMX.out, rfl, HB2.out⟩
  · obtain ⟨hk, -⟩ := mayX_fit hm
    obtain ⟨c1, c2, c3, k, c5, c6, c7, c8, c9, c10, c11, c12, c13⟩ := c
    rcases kind_cases k hk with rfl | rfl | rfl | rfl | rfl | rfl | rfl | rfl | rfl | rfl | rfl | rfl
    · refine (putR_1 c1 c2 c3 c5 c6 c7 c8 c9 c10 c11 c12 c13 h hm).mono ?_
      rintro e w1 ⟨v, he, hv, hb⟩
      refine .inr ⟨hm, v, he, ?_, hb⟩
      have e : putX (CX c1 c2 c3 1 c5 c6 c7 c8 c9 c10 c11 c12 c13) = beL (c1 : Int) 4 ++ beL (c2 : Int) 4 ++ beL (c3 : Int) 8 ++ beL ((1 : Nat) : Int) 4 ++ beL (c5 : Int) 4 ++ beL (c6 : Int) 4 := by
        unfold putX
        simp [CX, kRow, kNone, headS, headD, restS, restD, layL, layF]
      exact e ▸ hv
    · refine (putR_2 c1 c2 c3 c5 c6 c7 c8 c9 c10 c11 c12 c13 h hm).mono ?_
      rintro e w1 ⟨v, he, hv, hb⟩
      refine .inr ⟨hm, v, he, ?_, hb⟩
      have e : putX (CX c1 c2 c3 2 c5 c6 c7 c8 c9 c10 c11 c12 c13) = beL (c1 : Int) 4 ++ beL (c2 : Int) 4 ++ beL (c3 : Int) 8 ++ beL ((2 : Nat) : Int) 4 ++ beL (c5 : Int) 4 ++ beL (c6 : Int) 4 ++ beL (c12 : Int) 4 := by
        unfold putX
        simp [CX, kRow, kNone, headS, headD, restS, restD, layL, layF]
      exact e ▸ hv
    · refine (putR_3 c1 c2 c3 c5 c6 c7 c8 c9 c10 c11 c12 c13 h hm).mono ?_
      rintro e w1 ⟨v, he, hv, hb⟩
      refine .inr ⟨hm, v, he, ?_, hb⟩
      have e : putX (CX c1 c2 c3 3 c5 c6 c7 c8 c9 c10 c11 c12 c13) = beL (c1 : Int) 4 ++ beL (c2 : Int) 4 ++ beL (c3 : Int) 8 ++ beL ((3 : Nat) : Int) 4 ++ beL (c5 : Int) 4 ++ beL (c6 : Int) 4 ++ bytesX (L c7) := by
        unfold putX
        simp [CX, kRow, kNone, headS, headD, restS, restD, layL, layF]
      exact e ▸ hv
    · refine (putR_4 c1 c2 c3 c5 c6 c7 c8 c9 c10 c11 c12 c13 h hm).mono ?_
      rintro e w1 ⟨v, he, hv, hb⟩
      refine .inr ⟨hm, v, he, ?_, hb⟩
      have e : putX (CX c1 c2 c3 4 c5 c6 c7 c8 c9 c10 c11 c12 c13) = beL (c1 : Int) 4 ++ beL (c2 : Int) 4 ++ beL (c3 : Int) 8 ++ beL ((4 : Nat) : Int) 4 ++ beL (c5 : Int) 4 ++ beL (c6 : Int) 4 ++ beL (c11 : Int) 4 ++ beL (c12 : Int) 4 := by
        unfold putX
        simp [CX, kRow, kNone, headS, headD, restS, restD, layL, layF]
      exact e ▸ hv
    · refine (putR_5 c1 c2 c3 c5 c6 c7 c8 c9 c10 c11 c12 c13 h hm).mono ?_
      rintro e w1 ⟨v, he, hv, hb⟩
      refine .inr ⟨hm, v, he, ?_, hb⟩
      have e : putX (CX c1 c2 c3 5 c5 c6 c7 c8 c9 c10 c11 c12 c13) = beL (c1 : Int) 4 ++ beL (c2 : Int) 4 ++ beL (c3 : Int) 8 ++ beL ((5 : Nat) : Int) 4 ++ beL (c5 : Int) 4 ++ beL (c6 : Int) 4 ++ beL (c11 : Int) 4 ++ bytesX c13 := by
        unfold putX
        simp [CX, kRow, kNone, headS, headD, restS, restD, layL, layF]
      exact e ▸ hv
    · refine (putR_6 c1 c2 c3 c5 c6 c7 c8 c9 c10 c11 c12 c13 h hm).mono ?_
      rintro e w1 ⟨v, he, hv, hb⟩
      refine .inr ⟨hm, v, he, ?_, hb⟩
      have e : putX (CX c1 c2 c3 6 c5 c6 c7 c8 c9 c10 c11 c12 c13) = beL (c1 : Int) 4 ++ beL (c2 : Int) 4 ++ beL (c3 : Int) 8 ++ beL ((6 : Nat) : Int) 4 ++ beL (c5 : Int) 4 ++ beL (c6 : Int) 4 := by
        unfold putX
        simp [CX, kRow, kNone, headS, headD, restS, restD, layL, layF]
      exact e ▸ hv
    · refine (putR_7 c1 c2 c3 c5 c6 c7 c8 c9 c10 c11 c12 c13 h hm).mono ?_
      rintro e w1 ⟨v, he, hv, hb⟩
      refine .inr ⟨hm, v, he, ?_, hb⟩
      have e : putX (CX c1 c2 c3 7 c5 c6 c7 c8 c9 c10 c11 c12 c13) = beL (c1 : Int) 4 ++ beL (c2 : Int) 4 ++ beL (c3 : Int) 8 ++ beL ((7 : Nat) : Int) 4 ++ beL (c5 : Int) 4 ++ beL (c6 : Int) 4 ++ bytesX (L c7) := by
        unfold putX
        simp [CX, kRow, kNone, headS, headD, restS, restD, layL, layF]
      exact e ▸ hv
    · refine (putR_8 c1 c2 c3 c5 c6 c7 c8 c9 c10 c11 c12 c13 h hm).mono ?_
      rintro e w1 ⟨v, he, hv, hb⟩
      refine .inr ⟨hm, v, he, ?_, hb⟩
      have e : putX (CX c1 c2 c3 8 c5 c6 c7 c8 c9 c10 c11 c12 c13) = beL (c1 : Int) 4 ++ beL (c2 : Int) 4 ++ beL (c3 : Int) 8 ++ beL ((8 : Nat) : Int) 4 ++ beL (c5 : Int) 4 ++ beL (c6 : Int) 4 ++ bytesX (L c7) := by
        unfold putX
        simp [CX, kRow, kNone, headS, headD, restS, restD, layL, layF]
      exact e ▸ hv
    · refine (putR_9 c1 c2 c3 c5 c6 c7 c8 c9 c10 c11 c12 c13 h hm).mono ?_
      rintro e w1 ⟨v, he, hv, hb⟩
      refine .inr ⟨hm, v, he, ?_, hb⟩
      have e : putX (CX c1 c2 c3 9 c5 c6 c7 c8 c9 c10 c11 c12 c13) = beL (c1 : Int) 4 ++ beL (c2 : Int) 4 ++ beL (c3 : Int) 8 ++ beL ((9 : Nat) : Int) 4 ++ beL (c5 : Int) 4 ++ beL (c6 : Int) 4 ++ bytesX (L c7) := by
        unfold putX
        simp [CX, kRow, kNone, headS, headD, restS, restD, layL, layF]
      exact e ▸ hv
    · refine (putR_10 c1 c2 c3 c5 c6 c7 c8 c9 c10 c11 c12 c13 h hm).mono ?_
      rintro e w1 ⟨v, he, hv, hb⟩
      refine .inr ⟨hm, v, he, ?_, hb⟩
      have e : putX (CX c1 c2 c3 10 c5 c6 c7 c8 c9 c10 c11 c12 c13) = beL (c1 : Int) 4 ++ beL (c2 : Int) 4 ++ beL (c3 : Int) 8 ++ beL ((10 : Nat) : Int) 4 ++ beL (c5 : Int) 4 ++ beL (c6 : Int) 4 ++ bytesX (L c7) := by
        unfold putX
        simp [CX, kRow, kNone, headS, headD, restS, restD, layL, layF]
      exact e ▸ hv
    · refine (putR_11 c1 c2 c3 c5 c6 c7 c8 c9 c10 c11 c12 c13 h hm).mono ?_
      rintro e w1 ⟨v, he, hv, hb⟩
      refine .inr ⟨hm, v, he, ?_, hb⟩
      have e : putX (CX c1 c2 c3 11 c5 c6 c7 c8 c9 c10 c11 c12 c13) = beL (c1 : Int) 4 ++ beL (c2 : Int) 4 ++ beL (c3 : Int) 8 ++ beL ((11 : Nat) : Int) 4 ++ beL (c5 : Int) 4 ++ beL (c6 : Int) 4 ++ bytesX (L c7) ++ beL (c8 : Int) 4 ++ beL (c9 : Int) 4 ++ bytesX (L c10) := by
        unfold putX
        simp [CX, kRow, kNone, headS, headD, restS, restD, layL, layF]
      exact e ▸ hv
    · refine (putR_12 c1 c2 c3 c5 c6 c7 c8 c9 c10 c11 c12 c13 h hm).mono ?_
      rintro e w1 ⟨v, he, hv, hb⟩
      refine .inr ⟨hm, v, he, ?_, hb⟩
      have e : putX (CX c1 c2 c3 12 c5 c6 c7 c8 c9 c10 c11 c12 c13) = beL (c1 : Int) 4 ++ beL (c2 : Int) 4 ++ beL (c3 : Int) 8 ++ beL ((12 : Nat) : Int) 4 ++ beL (c5 : Int) 4 ++ beL (c6 : Int) 4 := by
        unfold putX
        simp [CX, kRow, kNone, headS, headD, restS, restD, layL, layF]
      exact e ▸ hv

end Go.Proofs.YthfaemcpheecfaaDoor
