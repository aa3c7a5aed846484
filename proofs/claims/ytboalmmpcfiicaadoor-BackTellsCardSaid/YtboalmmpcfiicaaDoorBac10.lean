/- The reference: the bytes of a reply. -/
import Derived.Test.YtboalmmpcfiicaaDoorBac5
import Derived.Test.YtboalmmpcfiicaaDoorBac9
import Derived.Test.YtboalmmpcfiicaaDoorXdQ1
namespace Go.Proofs.YtboalmmpcfiicaaDoor
open Go.RowKit Go.Shelf Go.Lib
set_option linter.unusedVariables false
set_option maxRecDepth 100000
set_option linter.unusedSimpArgs false

/-- bytes of one's own, gathered since w0 -/
def AppB (w0 : World) (v : Value) (l : List UInt8) (w : World) : Prop := w.ownsRow w0.heap.size 5 1 v l.length (cellsOf l) ∧ Below w0.heap.size w0 w
theorem AppB.below {w0 w w' : World} {v : Value} {l : List UInt8} (h : AppB w0 v l w) (hb : Below w.heap.size w w') : AppB w0 v l w' := ⟨ownsRow_turn' h.1 (Turn.of_below hb fun _ => False) (fun _ _ h => h), below_chain h.2 hb⟩
theorem AppB.app {w0 w w' : World} {v v' : Value} {l x : List UInt8} (h : AppB w0 v l w) (ho : w'.ownsRow w0.heap.size 5 1 v' (l.length + x.length) (cellsOf (l ++ x))) (hg : w.grownBy w' v.ownBlock) : AppB w0 v' (l ++ x) w' := ⟨by rw [List.length_append]; exact ho, below_own h.2 hg h.1 (Nat.le_refl _) h.2.size⟩
theorem own_lenB {w : World} {base n : Nat} {v : Value} {l : List UInt8} (h : w.ownsRow base 5 1 v n (cellsOf l)) (hn : n = l.length) : ∃ A c, v = .slice A l.length c ∧ Rd w A l ∧ (A = none → l = [] ∧ c = 0) := by
  subst hn
  obtain ⟨A, c, rfl, hr, hA, -, -⟩ := BsV.own h
  exact ⟨A, c, rfl, hr.rd, hA⟩
/-- what the reference's Put answers -/
def PutR (c : BackX) (w : World) (e : Ending) (w' : World) : Prop :=
  (mayB c = false ∧ e = .returned (.tuple #[.slice none 0 0, .int .i64 2]) ∧ Below w.heap.size w w') ∨
  (mayB c = true ∧ ∃ v, e = .returned (.tuple #[v, .int .i64 0]) ∧ BsV w' (w.heap.size ≤ ·) v (putB c) ∧ Below w.heap.size w w')
set_option maxHeartbeats 16000000 in
theorem PutR_v {F : Nat → Prop} {c : BackX} {v u : Value} {w : World} (h : BacV w F c v u) : Calls Tryd.prog 9 #[.agg (bacCells c v u).toArray] w fun e w' => PutR c w e w' := by
  obtain ⟨A, ca, rfl, -⟩ := id h.1
  obtain ⟨B, cb, rfl, -⟩ := id h.2.1
  have HV := Lib.hid h
  have HM := Lib.hid fun W (hb : Below w.heap.size w W) => MayR_v (h.below hb)
  have i0 : (c.client : Int) ≤ 255 := by have := h.2.2.1; omega
  have i3 : (c.status : Int) ≤ 255 := by have := h.2.2.2.2.2.1; omega
  generalize hcs : bacCells c (.slice A c.data.length ca) (.slice B c.names.length cb) = cs at *
  have HCS := Lib.hid hcs
  have hinfo : (Tryd.prog.info? 31).map (·.size) = some cs.length := by rw [← hcs]; exact infoBack
  clear hcs h
  cases hm : mayB c
  · rw [hm] at HM
    have HMM := Lib.hid hm
    clear hm
    go_enter Tryd.func9, Tryd.ntmps9
    go_wp2_with (first
      | ((with_reducible show wpList _ _ _ _ _ w); refine wpList_boxS rfl 31 _ rfl cs rfl ?_; intro g1 w1 hk1 hb1 hg1; go_frame; have C1 := Lib.hid hk1; have B1 := Lib.hid hb1; have G1 := Lib.hid hg1; clear hk1 hb1 hg1)
      | ((with_reducible show wpList _ _ _ _ _ w1); refine wpList_loadS rfl 31 _ rfl g1 rfl cs C1.out _ Tryd.underlying31 rfl hinfo ?_; go_frame)
      | fail)
    refine (HM.out _ B1.out).mono ?_
    rintro e w2 ⟨rfl, hb⟩
    have B2 := Lib.hid (below_chain B1.out hb)
    clear hb
    go_wp2_with fail
    go_ret2
    exact .inl ⟨HMM.out, rfl, B2.out⟩
  obtain ⟨m1, m2, m3, m4⟩ := mayB_parts hm
  rw [hm] at HM
  have HMM := Lib.hid hm
  have HMP := Lib.hid (And.intro m2 (And.intro m3 m4))
  have HPD := Lib.hid (padN_lt c.data.length)
  have hn32 : (c.names.length : Int) ≤ 32 := by omega
  clear hm m1 m2 m3 m4
  go_enter Tryd.func9, Tryd.ntmps9
  go_wp2_with (first
    | ((with_reducible show wpList _ _ _ _ _ w); refine wpList_boxS rfl 31 _ rfl cs rfl ?_; intro g1 w1 hk1 hb1 hg1; go_frame; have C1 := Lib.hid hk1; have B1 := Lib.hid hb1; have G1 := Lib.hid hg1; clear hk1 hb1 hg1)
    | ((with_reducible show wpList _ _ _ _ _ w1); refine wpList_loadS rfl 31 _ rfl g1 rfl cs C1.out _ Tryd.underlying31 rfl hinfo ?_; go_frame)
    | fail)
  refine (HM.out _ B1.out).mono ?_
  rintro e w2 ⟨rfl, hb⟩
  have C2 := Lib.hid (show Cs w2 g1 31 (bacCells c (.slice A c.data.length ca) (.slice B c.names.length cb)).toArray by rw [HCS.out]; exact C1.out.below hb C1.out.lt)
  have B2 := Lib.hid (below_chain B1.out hb)
  clear hb
  obtain ⟨p0, p1, p2, p3, p4, p5, p6, p7, p8, p9, p10, p11, p12⟩ := C2.out.bac
  go_wp2_with fail
  clear p0 p1 p2 p3 p4 p5 p6 p7 p8 p9 p10 p11 p12
  refine (qNumber c.client (by have := HV.out.2.2.1; omega) _).mono ?_
  rintro e w3 ⟨u3, rfl, hox, hb⟩
  obtain ⟨A3, N3, n3, rfl, -⟩ := own_slice hox
  have S3 := Lib.hid (show AppB w2 (.slice A3 N3 n3) (beL (c.client : Int) 4) w3 from ⟨hox, hb⟩)
  obtain ⟨p0, p1, p2, p3, p4, p5, p6, p7, p8, p9, p10, p11, p12⟩ := (C2.out.below hb C2.out.lt).bac
  clear hox hb
  go_wp2_with fail
  clear p0 p1 p2 p3 p4 p5 p6 p7 p8 p9 p10 p11 p12
  refine (qNumber c.inc HV.out.2.2.2.1 _).mono ?_
  rintro e w4 ⟨u4, rfl, hox, hb⟩
  obtain ⟨Ax, cx, rfl, hrx, hAx⟩ := own_lenB hox rfl
  have S4 := Lib.hid (S3.out.below hb)
  have HRX := Lib.hid hrx
  have HAX := Lib.hid hAx
  clear hox hb hrx hAx S3
  go_wp2_with (at_builtin; refine append_to rfl (.tmp 13) (.tmp 16) rfl w2.heap.size _ _ _ rfl S4.out.1 Ax (beL (c.inc : Int) 4) _ cx rfl rfl HRX.out HAX.out (by (try simp only [List.length_append, beL_length, bytesX_length, truthX_length]); have := HPD.out; have := HMP.out.1; omega) S4.out.2.size ?_; intro v5 w5 ho hg hto; obtain ⟨A5, N5, n5, rfl, -⟩ := own_slice ho; have S5 := Lib.hid (S4.out.app ho hg); obtain ⟨p0, p1, p2, p3, p4, p5, p6, p7, p8, p9, p10, p11, p12⟩ := (C2.out.below S5.out.2 C2.out.lt).bac; clear ho hg hto S4 HRX HAX)
  go_wp2_with fail
  clear p0 p1 p2 p3 p4 p5 p6 p7 p8 p9 p10 p11 p12
  refine (qGreat c.seq HV.out.2.2.2.2.1 _).mono ?_
  rintro e w6 ⟨u6, rfl, hox, hb⟩
  obtain ⟨Ax, cx, rfl, hrx, hAx⟩ := own_lenB hox rfl
  have S6 := Lib.hid (S5.out.below hb)
  have HRX := Lib.hid hrx
  have HAX := Lib.hid hAx
  clear hox hb hrx hAx S5
  go_wp2_with (at_builtin; refine append_to rfl (.tmp 18) (.tmp 21) rfl w2.heap.size _ _ _ rfl S6.out.1 Ax (beL (c.seq : Int) 8) _ cx rfl rfl HRX.out HAX.out (by (try simp only [List.length_append, beL_length, bytesX_length, truthX_length]); have := HPD.out; have := HMP.out.1; omega) S6.out.2.size ?_; intro v7 w7 ho hg hto; obtain ⟨A7, N7, n7, rfl, -⟩ := own_slice ho; have S7 := Lib.hid (S6.out.app ho hg); obtain ⟨p0, p1, p2, p3, p4, p5, p6, p7, p8, p9, p10, p11, p12⟩ := (C2.out.below S7.out.2 C2.out.lt).bac; clear ho hg hto S6 HRX HAX)
  go_wp2_with fail
  clear p0 p1 p2 p3 p4 p5 p6 p7 p8 p9 p10 p11 p12
  refine (qNumber c.status (by have := HV.out.2.2.2.2.2.1; omega) _).mono ?_
  rintro e w8 ⟨u8, rfl, hox, hb⟩
  obtain ⟨Ax, cx, rfl, hrx, hAx⟩ := own_lenB hox rfl
  have S8 := Lib.hid (S7.out.below hb)
  have HRX := Lib.hid hrx
  have HAX := Lib.hid hAx
  clear hox hb hrx hAx S7
  go_wp2_with (at_builtin; refine append_to rfl (.tmp 23) (.tmp 27) rfl w2.heap.size _ _ _ rfl S8.out.1 Ax (beL (c.status : Int) 4) _ cx rfl rfl HRX.out HAX.out (by (try simp only [List.length_append, beL_length, bytesX_length, truthX_length]); have := HPD.out; have := HMP.out.1; omega) S8.out.2.size ?_; intro v9 w9 ho hg hto; obtain ⟨A9, N9, n9, rfl, -⟩ := own_slice ho; have S9 := Lib.hid (S8.out.app ho hg); obtain ⟨p0, p1, p2, p3, p4, p5, p6, p7, p8, p9, p10, p11, p12⟩ := (C2.out.below S9.out.2 C2.out.lt).bac; clear ho hg hto S8 HRX HAX)
  go_wp2_with fail
  clear p0 p1 p2 p3 p4 p5 p6 p7 p8 p9 p10 p11 p12
  refine (qNumber c.boot HV.out.2.2.2.2.2.2.2.2.2.2.2 _).mono ?_
  rintro e w10 ⟨u10, rfl, hox, hb⟩
  obtain ⟨Ax, cx, rfl, hrx, hAx⟩ := own_lenB hox rfl
  have S10 := Lib.hid (S9.out.below hb)
  have HRX := Lib.hid hrx
  have HAX := Lib.hid hAx
  clear hox hb hrx hAx S9
  go_wp2_with (at_builtin; refine append_to rfl (.tmp 29) (.tmp 32) rfl w2.heap.size _ _ _ rfl S10.out.1 Ax (beL (c.boot : Int) 4) _ cx rfl rfl HRX.out HAX.out (by (try simp only [List.length_append, beL_length, bytesX_length, truthX_length]); have := HPD.out; have := HMP.out.1; omega) S10.out.2.size ?_; intro v11 w11 ho hg hto; obtain ⟨A11, N11, n11, rfl, -⟩ := own_slice ho; have S11 := Lib.hid (S10.out.app ho hg); obtain ⟨p0, p1, p2, p3, p4, p5, p6, p7, p8, p9, p10, p11, p12⟩ := (C2.out.below S11.out.2 C2.out.lt).bac; clear ho hg hto S10 HRX HAX)
  go_wp2_with fail
  clear p0 p1 p2 p3 p4 p5 p6 p7 p8 p9 p10 p11 p12
  refine (qNumber c.ino HV.out.2.2.2.2.2.2.1 _).mono ?_
  rintro e w12 ⟨u12, rfl, hox, hb⟩
  obtain ⟨Ax, cx, rfl, hrx, hAx⟩ := own_lenB hox rfl
  have S12 := Lib.hid (S11.out.below hb)
  have HRX := Lib.hid hrx
  have HAX := Lib.hid hAx
  clear hox hb hrx hAx S11
  go_wp2_with (at_builtin; refine append_to rfl (.tmp 34) (.tmp 39) rfl w2.heap.size _ _ _ rfl S12.out.1 Ax (beL (c.ino : Int) 4) _ cx rfl rfl HRX.out HAX.out (by (try simp only [List.length_append, beL_length, bytesX_length, truthX_length]); have := HPD.out; have := HMP.out.1; omega) S12.out.2.size ?_; intro v13 w13 ho hg hto; obtain ⟨A13, N13, n13, rfl, -⟩ := own_slice ho; have S13 := Lib.hid (S12.out.app ho hg); obtain ⟨p0, p1, p2, p3, p4, p5, p6, p7, p8, p9, p10, p11, p12⟩ := (C2.out.below S13.out.2 C2.out.lt).bac; clear ho hg hto S12 HRX HAX)
  go_wp2_with fail
  clear p0 p1 p2 p3 p4 p5 p6 p7 p8 p9 p10 p11 p12
  refine (qNumber c.gen HV.out.2.2.2.2.2.2.2.1 _).mono ?_
  rintro e w14 ⟨u14, rfl, hox, hb⟩
  obtain ⟨Ax, cx, rfl, hrx, hAx⟩ := own_lenB hox rfl
  have S14 := Lib.hid (S13.out.below hb)
  have HRX := Lib.hid hrx
  have HAX := Lib.hid hAx
  clear hox hb hrx hAx S13
  go_wp2_with (at_builtin; refine append_to rfl (.tmp 41) (.tmp 46) rfl w2.heap.size _ _ _ rfl S14.out.1 Ax (beL (c.gen : Int) 4) _ cx rfl rfl HRX.out HAX.out (by (try simp only [List.length_append, beL_length, bytesX_length, truthX_length]); have := HPD.out; have := HMP.out.1; omega) S14.out.2.size ?_; intro v15 w15 ho hg hto; obtain ⟨A15, N15, n15, rfl, -⟩ := own_slice ho; have S15 := Lib.hid (S14.out.app ho hg); obtain ⟨p0, p1, p2, p3, p4, p5, p6, p7, p8, p9, p10, p11, p12⟩ := (C2.out.below S15.out.2 C2.out.lt).bac; clear ho hg hto S14 HRX HAX)
  go_wp2_with fail
  clear p0 p1 p2 p3 p4 p5 p6 p7 p8 p9 p10 p11 p12
  refine (qTruth c.dir _).mono ?_
  rintro e w16 ⟨u16, rfl, hox, hb⟩
  obtain ⟨Ax, cx, rfl, hrx, hAx⟩ := own_lenB hox rfl
  have S16 := Lib.hid (S15.out.below hb)
  have HRX := Lib.hid hrx
  have HAX := Lib.hid hAx
  clear hox hb hrx hAx S15
  go_wp2_with (at_builtin; refine append_to rfl (.tmp 48) (.tmp 52) rfl w2.heap.size _ _ _ rfl S16.out.1 Ax (truthX c.dir) _ cx rfl rfl HRX.out HAX.out (by (try simp only [List.length_append, beL_length, bytesX_length, truthX_length]); have := HPD.out; have := HMP.out.1; omega) S16.out.2.size ?_; intro v17 w17 ho hg hto; obtain ⟨A17, N17, n17, rfl, -⟩ := own_slice ho; have S17 := Lib.hid (S16.out.app ho hg); obtain ⟨p0, p1, p2, p3, p4, p5, p6, p7, p8, p9, p10, p11, p12⟩ := (C2.out.below S17.out.2 C2.out.lt).bac; clear ho hg hto S16 HRX HAX)
  go_wp2_with fail
  clear p0 p1 p2 p3 p4 p5 p6 p7 p8 p9 p10 p11 p12
  refine (qNumber c.size HV.out.2.2.2.2.2.2.2.2.1 _).mono ?_
  rintro e w18 ⟨u18, rfl, hox, hb⟩
  obtain ⟨Ax, cx, rfl, hrx, hAx⟩ := own_lenB hox rfl
  have S18 := Lib.hid (S17.out.below hb)
  have HRX := Lib.hid hrx
  have HAX := Lib.hid hAx
  clear hox hb hrx hAx S17
  go_wp2_with (at_builtin; refine append_to rfl (.tmp 54) (.tmp 58) rfl w2.heap.size _ _ _ rfl S18.out.1 Ax (beL (c.size : Int) 4) _ cx rfl rfl HRX.out HAX.out (by (try simp only [List.length_append, beL_length, bytesX_length, truthX_length]); have := HPD.out; have := HMP.out.1; omega) S18.out.2.size ?_; intro v19 w19 ho hg hto; obtain ⟨A19, N19, n19, rfl, -⟩ := own_slice ho; have S19 := Lib.hid (S18.out.app ho hg); obtain ⟨p0, p1, p2, p3, p4, p5, p6, p7, p8, p9, p10, p11, p12⟩ := (C2.out.below S19.out.2 C2.out.lt).bac; clear ho hg hto S18 HRX HAX)
  go_wp2_with fail
  clear p0 p1 p2 p3 p4 p5 p6 p7 p8 p9 p10 p11 p12
  refine (qGreat c.change HV.out.2.2.2.2.2.2.2.2.2.1 _).mono ?_
  rintro e w20 ⟨u20, rfl, hox, hb⟩
  obtain ⟨Ax, cx, rfl, hrx, hAx⟩ := own_lenB hox rfl
  have S20 := Lib.hid (S19.out.below hb)
  have HRX := Lib.hid hrx
  have HAX := Lib.hid hAx
  clear hox hb hrx hAx S19
  go_wp2_with (at_builtin; refine append_to rfl (.tmp 60) (.tmp 64) rfl w2.heap.size _ _ _ rfl S20.out.1 Ax (beL (c.change : Int) 8) _ cx rfl rfl HRX.out HAX.out (by (try simp only [List.length_append, beL_length, bytesX_length, truthX_length]); have := HPD.out; have := HMP.out.1; omega) S20.out.2.size ?_; intro v21 w21 ho hg hto; obtain ⟨A21, N21, n21, rfl, -⟩ := own_slice ho; have S21 := Lib.hid (S20.out.app ho hg); obtain ⟨p0, p1, p2, p3, p4, p5, p6, p7, p8, p9, p10, p11, p12⟩ := (C2.out.below S21.out.2 C2.out.lt).bac; clear ho hg hto S20 HRX HAX)
  go_wp2_with fail
  clear p0 p1 p2 p3 p4 p5 p6 p7 p8 p9 p10 p11 p12
  refine (qGreat c.before HV.out.2.2.2.2.2.2.2.2.2.2.1 _).mono ?_
  rintro e w22 ⟨u22, rfl, hox, hb⟩
  obtain ⟨Ax, cx, rfl, hrx, hAx⟩ := own_lenB hox rfl
  have S22 := Lib.hid (S21.out.below hb)
  have HRX := Lib.hid hrx
  have HAX := Lib.hid hAx
  clear hox hb hrx hAx S21
  go_wp2_with (at_builtin; refine append_to rfl (.tmp 66) (.tmp 69) rfl w2.heap.size _ _ _ rfl S22.out.1 Ax (beL (c.before : Int) 8) _ cx rfl rfl HRX.out HAX.out (by (try simp only [List.length_append, beL_length, bytesX_length, truthX_length]); have := HPD.out; have := HMP.out.1; omega) S22.out.2.size ?_; intro v23 w23 ho hg hto; obtain ⟨A23, N23, n23, rfl, -⟩ := own_slice ho; have S23 := Lib.hid (S22.out.app ho hg); obtain ⟨p0, p1, p2, p3, p4, p5, p6, p7, p8, p9, p10, p11, p12⟩ := (C2.out.below S23.out.2 C2.out.lt).bac; clear ho hg hto S22 HRX HAX)
  go_wp2_with fail
  clear p0 p1 p2 p3 p4 p5 p6 p7 p8 p9 p10 p11 p12
  refine (qBytes c.data A ca _ (by have := HMP.out.1; omega) (HV.out.1.rdB.below (B2.out.trans (S23.out.2.mono B2.out.size))) HV.out.1.nilB).mono ?_
  rintro e w24 ⟨u24, rfl, hox, hb⟩
  obtain ⟨Ax, cx, rfl, hrx, hAx⟩ := own_lenB hox rfl
  have S24 := Lib.hid (S23.out.below hb)
  have HRX := Lib.hid hrx
  have HAX := Lib.hid hAx
  clear hox hb hrx hAx S23
  go_wp2_with (at_builtin; refine append_to rfl (.tmp 71) (.tmp 74) rfl w2.heap.size _ _ _ rfl S24.out.1 Ax (bytesX c.data) _ cx rfl rfl HRX.out HAX.out (by (try simp only [List.length_append, beL_length, bytesX_length, truthX_length]); have := HPD.out; have := HMP.out.1; omega) S24.out.2.size ?_; intro v25 w25 ho hg hto; obtain ⟨A25, N25, n25, rfl, -⟩ := own_slice ho; have S25 := Lib.hid (S24.out.app ho hg); obtain ⟨p0, p1, p2, p3, p4, p5, p6, p7, p8, p9, p10, p11, p12⟩ := (C2.out.below S25.out.2 C2.out.lt).bac; clear ho hg hto S24 HRX HAX)
  go_wp2_with fail
  clear p0 p1 p2 p3 p4 p5 p6 p7 p8 p9 p10 p11 p12
  refine (qNumber c.names.length (by have := HMP.out.2.1; omega) _).mono ?_
  rintro e w26 ⟨u26, rfl, hox, hb⟩
  obtain ⟨Ax, cx, rfl, hrx, hAx⟩ := own_lenB hox rfl
  have S26 := Lib.hid (S25.out.below hb)
  have HRX := Lib.hid hrx
  have HAX := Lib.hid hAx
  clear hox hb hrx hAx S25
  go_wp2_with (at_builtin; refine append_to rfl (.tmp 76) (.tmp 81) rfl w2.heap.size _ _ _ rfl S26.out.1 Ax (beL (c.names.length : Int) 4) _ cx rfl rfl HRX.out HAX.out (by (try simp only [List.length_append, beL_length, bytesX_length, truthX_length]); have := HPD.out; have := HMP.out.1; omega) S26.out.2.size ?_; intro v27 w27 ho hg hto; obtain ⟨A27, N27, n27, rfl, -⟩ := own_slice ho; have S27 := Lib.hid (S26.out.app ho hg); obtain ⟨p0, p1, p2, p3, p4, p5, p6, p7, p8, p9, p10, p11, p12⟩ := (C2.out.below S27.out.2 C2.out.lt).bac; clear ho hg hto S26 HRX HAX)
  clear p0 p1 p2 p3 p4 p5 p6 p7 p8 p9 p10 p11 p12
  have hpb : putB c = beL (c.client : Int) 4 ++ beL (c.inc : Int) 4 ++ beL (c.seq : Int) 8 ++ beL (c.status : Int) 4 ++ beL (c.boot : Int) 4 ++ beL (c.ino : Int) 4 ++ beL (c.gen : Int) 4 ++ truthX c.dir ++ beL (c.size : Int) 4 ++ beL (c.change : Int) 8 ++ beL (c.before : Int) 8 ++ bytesX c.data ++ beL (c.names.length : Int) 4 ++ layN c.names := by
    rw [putB_is]
    simp [attX]
  have hll := (show (beL (c.client : Int) 4 ++ beL (c.inc : Int) 4 ++ beL (c.seq : Int) 8 ++ beL (c.status : Int) 4 ++ beL (c.boot : Int) 4 ++ beL (c.ino : Int) 4 ++ beL (c.gen : Int) 4 ++ truthX c.dir ++ beL (c.size : Int) 4 ++ beL (c.change : Int) 8 ++ beL (c.before : Int) 8 ++ bytesX c.data ++ beL (c.names.length : Int) 4).length ≤ 1000 by (try simp only [List.length_append, beL_length, bytesX_length, truthX_length]); have := HPD.out; have := HMP.out.1; omega)
  generalize beL (c.client : Int) 4 ++ beL (c.inc : Int) 4 ++ beL (c.seq : Int) 8 ++ beL (c.status : Int) 4 ++ beL (c.boot : Int) 4 ++ beL (c.ino : Int) 4 ++ beL (c.gen : Int) 4 ++ truthX c.dir ++ beL (c.size : Int) 4 ++ beL (c.change : Int) 8 ++ beL (c.before : Int) 8 ++ bytesX c.data ++ beL (c.names.length : Int) 4 = hd at *
  have HPB := Lib.hid hpb
  have HLL := Lib.hid hll
  clear hpb hll
  generalize hns : c.names = ns at *
  have HNS := Lib.hid hns
  clear hns
  go_loopw [4, 5] (fun v i wr => ∃ k : Nat, k ≤ ns.length ∧ i = .int .i64 (k : Int) ∧ AppB w2 v (hd ++ layN (ns.take k)) wr) (fun _ i _ => ns.length - (RowKit.intOf i).toNat)
  case atStart => exact ⟨0, Nat.zero_le _, rfl, by have := S27.out; simpa [layN] using this⟩
  case round =>
    obtain ⟨k, hk, rfl, hw⟩ := hrel
    obtain ⟨A4, N4, n4, rfl, -⟩ := own_slice hw.1
    have HW := Lib.hid hw
    have hg := C2.out.below hw.2 C2.out.lt
    have pn : wr.cell? ⟨g1, 11, none⟩ = some (.slice B ns.length cb) := hg.bac.2.2.2.2.2.2.2.2.2.2.2.1
    clear hw hg
    by_cases hlt : k < ns.length
    · have hrn := ((HV.out.2.1.below (B2.out.trans (HW.out.2.mono B2.out.size))).rds)
      rw [HNS.out] at hrn
      obtain ⟨b, off, rfl, hc⟩ := hrn.get hlt
      have hcell := hc k hlt
      have hlt' : (k : Int) < (ns.length : Int) := by omega
      have hs := HMP.out.2.2 _ (List.getElem_mem hlt)
      have hsucc := layN_succ ns k hlt
      have hle := layN_le (ns.take k) (fun s hs => HMP.out.2.2 s (mem_take hs))
      rw [List.length_take] at hle
      generalize hsx : ns[k] = s at *
      have hsz : s.size ≤ 140737488355328 := by rw [L_size]; omega
      obtain ⟨W, cp, hcv, hb, hszw, hbv⟩ := conv_strB s hsz wr
      have HLE := Lib.hid hle
      have HSU := Lib.hid hsucc
      have HLS := Lib.hid hs
      have HW2 := Lib.hid (HW.out.below hb)
      have HX := Lib.hid (qBytes (L s) (some ⟨wr.heap.size, 0, none⟩) cp W (by omega) hbv.rdB (fun h => by cases h))
      clear hc hrn hs hsucc hle hsz hb hszw hbv hsx
      go_wp2_with fail
      refine HX.out.mono ?_
      rintro e w5 ⟨u5, rfl, hox, hb⟩
      obtain ⟨Ax, cx, rfl, hrx, hAx⟩ := own_lenB hox rfl
      have HW3 := Lib.hid (HW2.out.below hb)
      have HRX := Lib.hid hrx
      have HAX := Lib.hid hAx
      have HLX := Lib.hid (bytesX_length (L s))
      clear hox hb hrx hAx
      go_wp2_with (at_builtin; refine append_to rfl (.tmp 90) (.tmp 97) rfl w2.heap.size _ _ _ rfl HW3.out.1 Ax (bytesX (L s)) _ cx rfl rfl HRX.out HAX.out (by rw [List.length_append]; have h1 := HLX.out; have h2 := padN_lt (L s).length; have h3 := HLS.out; have h4 := HLE.out; have h5 := HLL.out; have h6 := HMP.out.2.1; omega) HW3.out.2.size ?_; intro v6 w6 ho hg hto; obtain ⟨A6, N6, n6, rfl, -⟩ := own_slice ho; have HW4 := Lib.hid (HW3.out.app ho hg); clear ho hg hto)
      go_roundw
      case rel =>
        refine ⟨k + 1, by omega, by go_num, ?_⟩
        rw [HSU.out, ← List.append_assoc]
        exact HW4.out
      case measure => simp [RowKit.intOf]; omega
    · obtain rfl : k = ns.length := by omega
      go_wp2_with fail
      go_ret2
      have hw := HW.out
      rw [List.take_length, ← HPB.out] at hw
      exact .inr ⟨HMM.out, _, rfl, (BsV.own hw.1).mono fun q _ hq => Nat.le_trans B2.out.size hq, B2.out.trans (hw.2.mono B2.out.size)⟩

end Go.Proofs.YtboalmmpcfiicaaDoor
