/- Which calls may be; which are the same; what changes something. -/
import Derived.Test.YthfaemcpheecfaaDoorCal1
import Derived.Test.YthfaemcpheecfaaDoorWordsK
namespace Go.Proofs.YthfaemcpheecfaaDoor
open Go.RowKit Go.Shelf
set_option linter.unusedVariables false
set_option maxRecDepth 100000
set_option linter.unusedSimpArgs false

/-- a call in memory: its cells, and its bytes in F -/
def CalV (w : World) (F : Nat → Prop) (c : CallX) (v : Value) : Prop := BsV w F v c.data ∧ calOk c
theorem CalV.below {w w' : World} {F : Nat → Prop} {c : CallX} {v : Value} (h : CalV w F c v) (hb : Below w.heap.size w w') : CalV w' F c v := ⟨h.1.below hb, h.2⟩
theorem nat_lt (a b : Nat) : decide (a < b) = decide ((a : Int) < (b : Int)) := decide_eq_decide.2 (by omega)
theorem nat_le (a b : Nat) : decide (a ≤ b) = decide ((a : Int) ≤ (b : Int)) := decide_eq_decide.2 (by omega)
theorem nat_eq (a b : Nat) : (a == b) = ((a : Int) == (b : Int)) := by rw [Bool.eq_iff_iff, beq_iff_eq, beq_iff_eq]; omega
set_option maxHeartbeats 8000000 in
theorem May_v {F : Nat → Prop} {c : CallX} {v : Value} {w : World} (h : CalV w F c v) (hT : Tabs w) : Calls Tryd.prog 11 #[.agg (calCells c v).toArray] w fun e w' => e = .returned (.bool (mayX c)) ∧ Below w.heap.size w w' := by
  obtain ⟨A, cp, rfl, -⟩ := id h.1
  have HR := Lib.hid fun u => rowOf_v c.kind u
  have HN := Lib.hid fun u (hb : Below w.heap.size w u) => mayName_v (kRow c.kind) c (.slice A c.data.length cp) u rfl (hT.below hb)
  have HTo := Lib.hid fun u (hb : Below w.heap.size w u) => mayTo_v (kRow c.kind) c (.slice A c.data.length cp) u rfl (hT.below hb)
  have HD := Lib.hid fun u => mayData_v (kRow c.kind) c.data A cp u
  have hm : mayX c = (kindX c.kind && decide ((c.client : Int) < 4) && decide (0 < (c.inc : Int)) && decide (0 < (c.seq : Int)) && decide ((c.off : Int) ≤ ((kRow c.kind).off : Int)) && decide ((c.size : Int) ≤ ((kRow c.kind).size : Int)) && mayNameX (kRow c.kind).name c.name && mayToX (kRow c.kind).to c && mayDataX (kRow c.kind).data c.data) := by
    unfold mayX
    rw [nat_lt c.client 4, nat_lt 0 c.inc, nat_lt 0 c.seq, nat_le, nat_le]
    rfl
  rw [hm]
  clear hm h hT
  generalize mayNameX (kRow c.kind).name c.name = b6 at *
  generalize mayToX (kRow c.kind).to c = b7 at *
  generalize mayDataX (kRow c.kind).data c.data = b8 at *
  generalize kindX c.kind = b0 at *
  generalize kRow c.kind = r at *
  unfold calCells kCells at *
  obtain ⟨ro, rs, rn, rt, rd⟩ := r
  dsimp only at *
  generalize c.data.length = n at *
  rcases b0 with _ | _
  · skip
    go_enter Tryd.func11, Tryd.ntmps11
    go_wp2_with fail
    refine (HR.out _).mono ?_
    rintro e w1 ⟨rfl, hb⟩
    have hk := (Cs.new w 28 _).below hb (by rw [World.size_alloc]; omega)
    have k0 := hk.cell 0 rfl
    have k1 := hk.cell 1 rfl
    have k2 := hk.cell 2 rfl
    have k3 := hk.cell 3 rfl
    have k4 := hk.cell 4 rfl
    have k5 := hk.cell 5 rfl
    have k6 := hk.cell 6 rfl
    have k7 := hk.cell 7 rfl
    have k8 := hk.cell 8 rfl
    have k9 := hk.cell 9 rfl
    have k10 := hk.cell 10 rfl
    have k11 := hk.cell 11 rfl
    have k12 := hk.cell 12 rfl
    have hlt := hk.lt
    have hne : w.heap.size ≠ w1.heap.size := by omega
    have HB := Lib.hid (below_chain (below_new1 w _) hb)
    have HK := Lib.hid hk
    clear hk hb
    go_wp2_with fail
    go_ret
    exact ⟨by simp, (below_chain HB.out (below_new1 w1 _))⟩
  · skip
    by_cases p1 : c.client < 4
    · have q1 : decide ((c.client : Int) < 4) = true := decide_eq_true (by omega)
      rw [q1]
      by_cases p2 : 0 < c.inc
      · have q2 : decide (0 < (c.inc : Int)) = true := decide_eq_true (by omega)
        rw [q2]
        by_cases p3 : 0 < c.seq
        · have q3 : decide (0 < (c.seq : Int)) = true := decide_eq_true (by omega)
          rw [q3]
          by_cases p4 : c.off ≤ ro
          · have q4 : decide ((c.off : Int) ≤ (ro : Int)) = true := decide_eq_true (by omega)
            rw [q4]
            by_cases p5 : c.size ≤ rs
            · have q5 : decide ((c.size : Int) ≤ (rs : Int)) = true := decide_eq_true (by omega)
              rw [q5]
              rcases b6 with _ | _
              · skip
                go_enter Tryd.func11, Tryd.ntmps11
                go_wp2_with fail
                refine (HR.out _).mono ?_
                rintro e w1 ⟨rfl, hb⟩
                have hk := (Cs.new w 28 _).below hb (by rw [World.size_alloc]; omega)
                have k0 := hk.cell 0 rfl
                have k1 := hk.cell 1 rfl
                have k2 := hk.cell 2 rfl
                have k3 := hk.cell 3 rfl
                have k4 := hk.cell 4 rfl
                have k5 := hk.cell 5 rfl
                have k6 := hk.cell 6 rfl
                have k7 := hk.cell 7 rfl
                have k8 := hk.cell 8 rfl
                have k9 := hk.cell 9 rfl
                have k10 := hk.cell 10 rfl
                have k11 := hk.cell 11 rfl
                have k12 := hk.cell 12 rfl
                have hlt := hk.lt
                have hne : w.heap.size ≠ w1.heap.size := by omega
                have HB := Lib.hid (below_chain (below_new1 w _) hb)
                have HK := Lib.hid hk
                clear hk hb
                go_wp2_with fail
                refine (HN.out _ (below_chain HB.out (below_new1 w1 _))).mono ?_
                rintro e w2 ⟨rfl, hb⟩
                have hk := ((HK.out.alloc _).below hb (by rw [World.size_alloc]; exact Nat.lt_succ_of_lt HK.out.lt))
                have hr := (Cs.new w1 66 _).below hb (by rw [World.size_alloc]; omega)
                have k0_0 := hk.cell 0 rfl
                have k1_0 := hk.cell 1 rfl
                have k2_0 := hk.cell 2 rfl
                have k3_0 := hk.cell 3 rfl
                have k4_0 := hk.cell 4 rfl
                have k5_0 := hk.cell 5 rfl
                have k6_0 := hk.cell 6 rfl
                have k7_0 := hk.cell 7 rfl
                have k8_0 := hk.cell 8 rfl
                have k9_0 := hk.cell 9 rfl
                have k10_0 := hk.cell 10 rfl
                have k11_0 := hk.cell 11 rfl
                have k12_0 := hk.cell 12 rfl
                have r0_0 := hr.cell 0 rfl
                have r1_0 := hr.cell 1 rfl
                have r2_0 := hr.cell 2 rfl
                have r3_0 := hr.cell 3 rfl
                have r4_0 := hr.cell 4 rfl
                have HB0 := Lib.hid (below_chain (below_chain HB.out (below_new1 w1 _)) hb)
                have HK1 := Lib.hid hk
                have HR1 := Lib.hid hr
                clear hk hr hb
                go_wp2_with fail
                go_ret
                exact ⟨by simp, HB0.out⟩
              · rcases b7 with _ | _
                · skip
                  go_enter Tryd.func11, Tryd.ntmps11
                  go_wp2_with fail
                  refine (HR.out _).mono ?_
                  rintro e w1 ⟨rfl, hb⟩
                  have hk := (Cs.new w 28 _).below hb (by rw [World.size_alloc]; omega)
                  have k0 := hk.cell 0 rfl
                  have k1 := hk.cell 1 rfl
                  have k2 := hk.cell 2 rfl
                  have k3 := hk.cell 3 rfl
                  have k4 := hk.cell 4 rfl
                  have k5 := hk.cell 5 rfl
                  have k6 := hk.cell 6 rfl
                  have k7 := hk.cell 7 rfl
                  have k8 := hk.cell 8 rfl
                  have k9 := hk.cell 9 rfl
                  have k10 := hk.cell 10 rfl
                  have k11 := hk.cell 11 rfl
                  have k12 := hk.cell 12 rfl
                  have hlt := hk.lt
                  have hne : w.heap.size ≠ w1.heap.size := by omega
                  have HB := Lib.hid (below_chain (below_new1 w _) hb)
                  have HK := Lib.hid hk
                  clear hk hb
                  go_wp2_with fail
                  refine (HN.out _ (below_chain HB.out (below_new1 w1 _))).mono ?_
                  rintro e w2 ⟨rfl, hb⟩
                  have hk := ((HK.out.alloc _).below hb (by rw [World.size_alloc]; exact Nat.lt_succ_of_lt HK.out.lt))
                  have hr := (Cs.new w1 66 _).below hb (by rw [World.size_alloc]; omega)
                  have k0_0 := hk.cell 0 rfl
                  have k1_0 := hk.cell 1 rfl
                  have k2_0 := hk.cell 2 rfl
                  have k3_0 := hk.cell 3 rfl
                  have k4_0 := hk.cell 4 rfl
                  have k5_0 := hk.cell 5 rfl
                  have k6_0 := hk.cell 6 rfl
                  have k7_0 := hk.cell 7 rfl
                  have k8_0 := hk.cell 8 rfl
                  have k9_0 := hk.cell 9 rfl
                  have k10_0 := hk.cell 10 rfl
                  have k11_0 := hk.cell 11 rfl
                  have k12_0 := hk.cell 12 rfl
                  have r0_0 := hr.cell 0 rfl
                  have r1_0 := hr.cell 1 rfl
                  have r2_0 := hr.cell 2 rfl
                  have r3_0 := hr.cell 3 rfl
                  have r4_0 := hr.cell 4 rfl
                  have HB0 := Lib.hid (below_chain (below_chain HB.out (below_new1 w1 _)) hb)
                  have HK1 := Lib.hid hk
                  have HR1 := Lib.hid hr
                  clear hk hr hb
                  go_wp2_with fail
                  refine (HTo.out _ HB0.out).mono ?_
                  rintro e w3 ⟨rfl, hb⟩
                  have hk := HK1.out.below hb HK1.out.lt
                  have hr := HR1.out.below hb HR1.out.lt
                  have k0_1 := hk.cell 0 rfl
                  have k1_1 := hk.cell 1 rfl
                  have k2_1 := hk.cell 2 rfl
                  have k3_1 := hk.cell 3 rfl
                  have k4_1 := hk.cell 4 rfl
                  have k5_1 := hk.cell 5 rfl
                  have k6_1 := hk.cell 6 rfl
                  have k7_1 := hk.cell 7 rfl
                  have k8_1 := hk.cell 8 rfl
                  have k9_1 := hk.cell 9 rfl
                  have k10_1 := hk.cell 10 rfl
                  have k11_1 := hk.cell 11 rfl
                  have k12_1 := hk.cell 12 rfl
                  have r0_1 := hr.cell 0 rfl
                  have r1_1 := hr.cell 1 rfl
                  have r2_1 := hr.cell 2 rfl
                  have r3_1 := hr.cell 3 rfl
                  have r4_1 := hr.cell 4 rfl
                  have HB1 := Lib.hid (below_chain HB0.out hb)
                  have HK2 := Lib.hid hk
                  have HR2 := Lib.hid hr
                  clear hk hr hb
                  go_wp2_with fail
                  go_ret
                  exact ⟨by simp, HB1.out⟩
                · skip
                  go_enter Tryd.func11, Tryd.ntmps11
                  go_wp2_with fail
                  refine (HR.out _).mono ?_
                  rintro e w1 ⟨rfl, hb⟩
                  have hk := (Cs.new w 28 _).below hb (by rw [World.size_alloc]; omega)
                  have k0 := hk.cell 0 rfl
                  have k1 := hk.cell 1 rfl
                  have k2 := hk.cell 2 rfl
                  have k3 := hk.cell 3 rfl
                  have k4 := hk.cell 4 rfl
                  have k5 := hk.cell 5 rfl
                  have k6 := hk.cell 6 rfl
                  have k7 := hk.cell 7 rfl
                  have k8 := hk.cell 8 rfl
                  have k9 := hk.cell 9 rfl
                  have k10 := hk.cell 10 rfl
                  have k11 := hk.cell 11 rfl
                  have k12 := hk.cell 12 rfl
                  have hlt := hk.lt
                  have hne : w.heap.size ≠ w1.heap.size := by omega
                  have HB := Lib.hid (below_chain (below_new1 w _) hb)
                  have HK := Lib.hid hk
                  clear hk hb
                  go_wp2_with fail
                  refine (HN.out _ (below_chain HB.out (below_new1 w1 _))).mono ?_
                  rintro e w2 ⟨rfl, hb⟩
                  have hk := ((HK.out.alloc _).below hb (by rw [World.size_alloc]; exact Nat.lt_succ_of_lt HK.out.lt))
                  have hr := (Cs.new w1 66 _).below hb (by rw [World.size_alloc]; omega)
                  have k0_0 := hk.cell 0 rfl
                  have k1_0 := hk.cell 1 rfl
                  have k2_0 := hk.cell 2 rfl
                  have k3_0 := hk.cell 3 rfl
                  have k4_0 := hk.cell 4 rfl
                  have k5_0 := hk.cell 5 rfl
                  have k6_0 := hk.cell 6 rfl
                  have k7_0 := hk.cell 7 rfl
                  have k8_0 := hk.cell 8 rfl
                  have k9_0 := hk.cell 9 rfl
                  have k10_0 := hk.cell 10 rfl
                  have k11_0 := hk.cell 11 rfl
                  have k12_0 := hk.cell 12 rfl
                  have r0_0 := hr.cell 0 rfl
                  have r1_0 := hr.cell 1 rfl
                  have r2_0 := hr.cell 2 rfl
                  have r3_0 := hr.cell 3 rfl
                  have r4_0 := hr.cell 4 rfl
                  have HB0 := Lib.hid (below_chain (below_chain HB.out (below_new1 w1 _)) hb)
                  have HK1 := Lib.hid hk
                  have HR1 := Lib.hid hr
                  clear hk hr hb
                  go_wp2_with fail
                  refine (HTo.out _ HB0.out).mono ?_
                  rintro e w3 ⟨rfl, hb⟩
                  have hk := HK1.out.below hb HK1.out.lt
                  have hr := HR1.out.below hb HR1.out.lt
                  have k0_1 := hk.cell 0 rfl
                  have k1_1 := hk.cell 1 rfl
                  have k2_1 := hk.cell 2 rfl
                  have k3_1 := hk.cell 3 rfl
                  have k4_1 := hk.cell 4 rfl
                  have k5_1 := hk.cell 5 rfl
                  have k6_1 := hk.cell 6 rfl
                  have k7_1 := hk.cell 7 rfl
                  have k8_1 := hk.cell 8 rfl
                  have k9_1 := hk.cell 9 rfl
                  have k10_1 := hk.cell 10 rfl
                  have k11_1 := hk.cell 11 rfl
                  have k12_1 := hk.cell 12 rfl
                  have r0_1 := hr.cell 0 rfl
                  have r1_1 := hr.cell 1 rfl
                  have r2_1 := hr.cell 2 rfl
                  have r3_1 := hr.cell 3 rfl
                  have r4_1 := hr.cell 4 rfl
                  have HB1 := Lib.hid (below_chain HB0.out hb)
                  have HK2 := Lib.hid hk
                  have HR2 := Lib.hid hr
                  clear hk hr hb
                  go_wp2_with fail
                  refine (HD.out _).mono ?_
                  rintro e w4 ⟨rfl, hb⟩
                  have hk := HK2.out.below hb HK2.out.lt
                  have hr := HR2.out.below hb HR2.out.lt
                  have k0_2 := hk.cell 0 rfl
                  have k1_2 := hk.cell 1 rfl
                  have k2_2 := hk.cell 2 rfl
                  have k3_2 := hk.cell 3 rfl
                  have k4_2 := hk.cell 4 rfl
                  have k5_2 := hk.cell 5 rfl
                  have k6_2 := hk.cell 6 rfl
                  have k7_2 := hk.cell 7 rfl
                  have k8_2 := hk.cell 8 rfl
                  have k9_2 := hk.cell 9 rfl
                  have k10_2 := hk.cell 10 rfl
                  have k11_2 := hk.cell 11 rfl
                  have k12_2 := hk.cell 12 rfl
                  have r0_2 := hr.cell 0 rfl
                  have r1_2 := hr.cell 1 rfl
                  have r2_2 := hr.cell 2 rfl
                  have r3_2 := hr.cell 3 rfl
                  have r4_2 := hr.cell 4 rfl
                  have HB2 := Lib.hid (below_chain HB1.out hb)
                  have HK3 := Lib.hid hk
                  have HR3 := Lib.hid hr
                  clear hk hr hb
                  go_wp2_with fail
                  go_ret
                  exact ⟨by simp, HB2.out⟩
            · have q5 : decide ((c.size : Int) ≤ (rs : Int)) = false := decide_eq_false (by omega)
              rw [q5]
              go_enter Tryd.func11, Tryd.ntmps11
              go_wp2_with fail
              refine (HR.out _).mono ?_
              rintro e w1 ⟨rfl, hb⟩
              have hk := (Cs.new w 28 _).below hb (by rw [World.size_alloc]; omega)
              have k0 := hk.cell 0 rfl
              have k1 := hk.cell 1 rfl
              have k2 := hk.cell 2 rfl
              have k3 := hk.cell 3 rfl
              have k4 := hk.cell 4 rfl
              have k5 := hk.cell 5 rfl
              have k6 := hk.cell 6 rfl
              have k7 := hk.cell 7 rfl
              have k8 := hk.cell 8 rfl
              have k9 := hk.cell 9 rfl
              have k10 := hk.cell 10 rfl
              have k11 := hk.cell 11 rfl
              have k12 := hk.cell 12 rfl
              have hlt := hk.lt
              have hne : w.heap.size ≠ w1.heap.size := by omega
              have HB := Lib.hid (below_chain (below_new1 w _) hb)
              have HK := Lib.hid hk
              clear hk hb
              go_wp2_with fail
              go_ret
              exact ⟨by simp, (below_chain HB.out (below_new1 w1 _))⟩
          · have q4 : decide ((c.off : Int) ≤ (ro : Int)) = false := decide_eq_false (by omega)
            rw [q4]
            go_enter Tryd.func11, Tryd.ntmps11
            go_wp2_with fail
            refine (HR.out _).mono ?_
            rintro e w1 ⟨rfl, hb⟩
            have hk := (Cs.new w 28 _).below hb (by rw [World.size_alloc]; omega)
            have k0 := hk.cell 0 rfl
            have k1 := hk.cell 1 rfl
            have k2 := hk.cell 2 rfl
            have k3 := hk.cell 3 rfl
            have k4 := hk.cell 4 rfl
            have k5 := hk.cell 5 rfl
            have k6 := hk.cell 6 rfl
            have k7 := hk.cell 7 rfl
            have k8 := hk.cell 8 rfl
            have k9 := hk.cell 9 rfl
            have k10 := hk.cell 10 rfl
            have k11 := hk.cell 11 rfl
            have k12 := hk.cell 12 rfl
            have hlt := hk.lt
            have hne : w.heap.size ≠ w1.heap.size := by omega
            have HB := Lib.hid (below_chain (below_new1 w _) hb)
            have HK := Lib.hid hk
            clear hk hb
            go_wp2_with fail
            go_ret
            exact ⟨by simp, (below_chain HB.out (below_new1 w1 _))⟩
        · have q3 : decide (0 < (c.seq : Int)) = false := decide_eq_false (by omega)
          rw [q3]
          go_enter Tryd.func11, Tryd.ntmps11
          go_wp2_with fail
          refine (HR.out _).mono ?_
          rintro e w1 ⟨rfl, hb⟩
          have hk := (Cs.new w 28 _).below hb (by rw [World.size_alloc]; omega)
          have k0 := hk.cell 0 rfl
          have k1 := hk.cell 1 rfl
          have k2 := hk.cell 2 rfl
          have k3 := hk.cell 3 rfl
          have k4 := hk.cell 4 rfl
          have k5 := hk.cell 5 rfl
          have k6 := hk.cell 6 rfl
          have k7 := hk.cell 7 rfl
          have k8 := hk.cell 8 rfl
          have k9 := hk.cell 9 rfl
          have k10 := hk.cell 10 rfl
          have k11 := hk.cell 11 rfl
          have k12 := hk.cell 12 rfl
          have hlt := hk.lt
          have hne : w.heap.size ≠ w1.heap.size := by omega
          have HB := Lib.hid (below_chain (below_new1 w _) hb)
          have HK := Lib.hid hk
          clear hk hb
          go_wp2_with fail
          go_ret
          exact ⟨by simp, (below_chain HB.out (below_new1 w1 _))⟩
      · have q2 : decide (0 < (c.inc : Int)) = false := decide_eq_false (by omega)
        rw [q2]
        go_enter Tryd.func11, Tryd.ntmps11
        go_wp2_with fail
        refine (HR.out _).mono ?_
        rintro e w1 ⟨rfl, hb⟩
        have hk := (Cs.new w 28 _).below hb (by rw [World.size_alloc]; omega)
        have k0 := hk.cell 0 rfl
        have k1 := hk.cell 1 rfl
        have k2 := hk.cell 2 rfl
        have k3 := hk.cell 3 rfl
        have k4 := hk.cell 4 rfl
        have k5 := hk.cell 5 rfl
        have k6 := hk.cell 6 rfl
        have k7 := hk.cell 7 rfl
        have k8 := hk.cell 8 rfl
        have k9 := hk.cell 9 rfl
        have k10 := hk.cell 10 rfl
        have k11 := hk.cell 11 rfl
        have k12 := hk.cell 12 rfl
        have hlt := hk.lt
        have hne : w.heap.size ≠ w1.heap.size := by omega
        have HB := Lib.hid (below_chain (below_new1 w _) hb)
        have HK := Lib.hid hk
        clear hk hb
        go_wp2_with fail
        go_ret
        exact ⟨by simp, (below_chain HB.out (below_new1 w1 _))⟩
    · have q1 : decide ((c.client : Int) < 4) = false := decide_eq_false (by omega)
      rw [q1]
      go_enter Tryd.func11, Tryd.ntmps11
      go_wp2_with fail
      refine (HR.out _).mono ?_
      rintro e w1 ⟨rfl, hb⟩
      have hk := (Cs.new w 28 _).below hb (by rw [World.size_alloc]; omega)
      have k0 := hk.cell 0 rfl
      have k1 := hk.cell 1 rfl
      have k2 := hk.cell 2 rfl
      have k3 := hk.cell 3 rfl
      have k4 := hk.cell 4 rfl
      have k5 := hk.cell 5 rfl
      have k6 := hk.cell 6 rfl
      have k7 := hk.cell 7 rfl
      have k8 := hk.cell 8 rfl
      have k9 := hk.cell 9 rfl
      have k10 := hk.cell 10 rfl
      have k11 := hk.cell 11 rfl
      have k12 := hk.cell 12 rfl
      have hlt := hk.lt
      have hne : w.heap.size ≠ w1.heap.size := by omega
      have HB := Lib.hid (below_chain (below_new1 w _) hb)
      have HK := Lib.hid hk
      clear hk hb
      go_wp2_with fail
      go_ret
      exact ⟨by simp, (below_chain HB.out (below_new1 w1 _))⟩

end Go.Proofs.YthfaemcpheecfaaDoor
