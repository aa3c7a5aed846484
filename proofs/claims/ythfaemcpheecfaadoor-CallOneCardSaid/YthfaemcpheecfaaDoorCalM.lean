/- The reference: which calls may be. -/
import Derived.Test.YthfaemcpheecfaaDoorCalR1b
import Derived.Test.YthfaemcpheecfaaDoorCalR1c
import Derived.Test.YthfaemcpheecfaaDoorCalR2
namespace Go.Proofs.YthfaemcpheecfaaDoor
open Go.RowKit Go.Shelf
set_option linter.unusedVariables false
set_option maxRecDepth 100000
set_option linter.unusedSimpArgs false

theorem only_v (c : CallX) (A : Option Addr) (n cp : Nat) (w : World) : Calls Tryd.prog 37 #[.agg (calCells c (.slice A n cp)).toArray] w fun e w' => e = .returned (.tuple #[.agg (calCells (onlyX c) (onlyV c (.slice A n cp))).toArray, .bool (kindX c.kind)]) ∧ Below w.heap.size w w' := by
  rcases h : kindX c.kind with _ | _
  · have e : onlyX c = calZero := by unfold onlyX; rw [if_pos h]
    have ev : onlyV c (.slice A n cp) = .slice none 0 0 := by
      unfold onlyV
      rw [if_neg (kind_no _ h 5 (by decide) (by decide))]
    rw [e, ev]
    exact only_no c h A n cp w
  · obtain ⟨c1, c2, c3, k, c5, c6, c7, c8, c9, c10, c11, c12, c13⟩ := c
    rcases kind_cases k h with rfl | rfl | rfl | rfl | rfl | rfl | rfl | rfl | rfl | rfl | rfl | rfl
    · exact only_1 c1 c2 c3 c5 c6 c7 c8 c9 c10 c11 c12 c13 A n cp w
    · exact only_2 c1 c2 c3 c5 c6 c7 c8 c9 c10 c11 c12 c13 A n cp w
    · exact only_3 c1 c2 c3 c5 c6 c7 c8 c9 c10 c11 c12 c13 A n cp w
    · exact only_4 c1 c2 c3 c5 c6 c7 c8 c9 c10 c11 c12 c13 A n cp w
    · exact only_5 c1 c2 c3 c5 c6 c7 c8 c9 c10 c11 c12 c13 A n cp w
    · exact only_6 c1 c2 c3 c5 c6 c7 c8 c9 c10 c11 c12 c13 A n cp w
    · exact only_7 c1 c2 c3 c5 c6 c7 c8 c9 c10 c11 c12 c13 A n cp w
    · exact only_8 c1 c2 c3 c5 c6 c7 c8 c9 c10 c11 c12 c13 A n cp w
    · exact only_9 c1 c2 c3 c5 c6 c7 c8 c9 c10 c11 c12 c13 A n cp w
    · exact only_10 c1 c2 c3 c5 c6 c7 c8 c9 c10 c11 c12 c13 A n cp w
    · exact only_11 c1 c2 c3 c5 c6 c7 c8 c9 c10 c11 c12 c13 A n cp w
    · exact only_12 c1 c2 c3 c5 c6 c7 c8 c9 c10 c11 c12 c13 A n cp w
theorem only_data (c : CallX) : (onlyX c).data = if c.kind = 5 then c.data else [] := by
  unfold onlyX
  by_cases h0 : kindX c.kind = false
  · rw [if_pos h0, if_neg (kind_no _ h0 5 (by decide) (by decide))]; rfl
  rw [if_neg h0]
  by_cases h2 : c.kind = 2
  · rw [if_pos h2, if_neg (by omega)]; rfl
  rw [if_neg h2]
  by_cases h3 : c.kind = 3 ∨ c.kind = 7 ∨ c.kind = 8 ∨ c.kind = 9 ∨ c.kind = 10
  · rw [if_pos h3, if_neg (by omega)]; rfl
  rw [if_neg h3]
  by_cases h4 : c.kind = 4
  · rw [if_pos h4, if_neg (by omega)]; rfl
  rw [if_neg h4]
  by_cases h5 : c.kind = 5
  · rw [if_pos h5, if_pos h5]
  rw [if_neg h5]
  by_cases h6 : c.kind = 11
  · rw [if_pos h6, if_neg h5]; rfl
  · rw [if_neg h6, if_neg h5]; rfl
theorem only_cal {F : Nat → Prop} {c : CallX} {v : Value} {w : World} (h : CalV w F c v) : CalV w F (onlyX c) (onlyV c v) := by
  refine ⟨?_, ?_⟩
  · rw [only_data]
    unfold onlyV
    by_cases h5 : c.kind = 5
    · rw [if_pos h5, if_pos h5]; exact h.1
    · rw [if_neg h5, if_neg h5]; exact BsV.nil _ _
  · obtain ⟨h1, h2, h3, h4, h5, h6, h7, h8, h9, h10⟩ := h.2
    unfold onlyX
    split
    · simp [calOk, calZero]
    · split
      · simp [calOk, calZero]; omega
      · split
        · simp [calOk, calZero]; omega
        · split
          · simp [calOk, calZero]; omega
          · split
            · simp [calOk, calZero]; omega
            · split
              · simp [calOk, calZero]; omega
              · simp [calOk, calZero]; omega
theorem empty_L {s : ByteArray} (h : (L s).isEmpty = true) : s = noText := L_inj (by rw [List.isEmpty_iff] at h; rw [h]; rfl)
theorem no_iff (s : ByteArray) : (noText = s) ↔ s.data = #[] := by
  constructor
  · rintro rfl; rfl
  · intro h; obtain ⟨d⟩ := s; dsimp only at h; subst h; rfl
theorem zero_eq (n : Nat) : (0 = n) ↔ n = 0 := eq_comm
theorem empty_no {s : ByteArray} (h : (L s).isEmpty = false) : s ≠ noText := fun e => by subst e; cases h
theorem beq_prop {b : Bool} {p : Prop} (h : b = true ↔ p) {b' : Bool} (h' : b' = true ↔ p) : b = b' := by
  rw [Bool.eq_iff_iff, h, h']
/-- the document's words come to the program's -/
theorem may_is (c : CallX) : mayX c = (kindX c.kind && sameX (onlyX c) c && decide (c.client < 4) && decide (0 < c.inc) && decide (0 < c.seq) && fieldsX c) := by
  rcases hk : kindX c.kind with _ | _
  · unfold mayX; rw [hk]; simp
  rw [Bool.eq_iff_iff]
  obtain ⟨c1, c2, c3, k, c5, c6, c7, c8, c9, c10, c11, c12, c13⟩ := c
  dsimp only at hk
  simp only [Bool.and_eq_true, sameX_iff, Bool.true_and]
  unfold mayX
  dsimp only
  rw [hk]
  simp only [Bool.and_eq_true, Bool.true_and, decide_eq_true_eq]
  rcases kind_cases k hk with rfl | rfl | rfl | rfl | rfl | rfl | rfl | rfl | rfl | rfl | rfl | rfl
  all_goals
    simp [kRow, kNone, onlyX, kindX, fieldsX, mayNameX, mayToX, mayDataX, calZero, CallX.mk.injEq]
  all_goals
    simp only [no_iff, zero_eq]
    first
      | (constructor <;> (intro h; simp_all; done))
      | (constructor <;> (intro h; simp_all; try omega))
set_option maxHeartbeats 16000000 in
theorem MayR_v {F : Nat → Prop} {c : CallX} {v : Value} {w : World} (h : CalV w F c v) : Calls Tryd.prog 12 #[.agg (calCells c v).toArray] w fun e w' => e = .returned (.bool (mayX c)) ∧ Below w.heap.size w w' := by
  obtain ⟨A, cp, rfl, -⟩ := id h.1
  have hm : mayX c = (kindX c.kind && sameX (onlyX c) c && decide ((c.client : Int) < 4) && decide (1 ≤ (c.inc : Int)) && decide (1 ≤ (c.seq : Int)) && fieldsX c) := by
    rw [may_is, nat_lt c.client 4, show decide (0 < c.inc) = decide (1 ≤ (c.inc : Int)) from decide_eq_decide.2 (by omega), show decide (0 < c.seq) = decide (1 ≤ (c.seq : Int)) from decide_eq_decide.2 (by omega)]
    rfl
  rw [hm]
  have HO := Lib.hid fun u => only_v c A c.data.length cp u
  have hov : ∃ A2 c2, onlyV c (.slice A c.data.length cp) = .slice A2 (onlyX c).data.length c2 := by
    obtain ⟨A2, c2, e, -⟩ := (only_cal h).1
    exact ⟨A2, c2, e⟩
  have HSM := Lib.hid fun u (hb : Below w.heap.size w u) => SameR_v (only_cal (h.below hb)) (h.below hb)
  have HFD := Lib.hid fun u => fields_v c A cp u
  obtain ⟨A2, cp2, hov⟩ := hov
  rw [hov] at HO HSM
  clear h hm hov
  generalize sameX (onlyX c) c = b1 at *
  generalize fieldsX c = b5 at *
  generalize kindX c.kind = b0 at *
  generalize onlyX c = oc at *
  generalize oc.data.length = on at *
  unfold calCells at *
  generalize c.data.length = n at *
  rcases b0 with _ | _
  · skip
    go_enter Tryd.func12, Tryd.ntmps12
    go_wp2_with fail
    refine (HO.out _).mono ?_
    rintro e w1 ⟨rfl, hb⟩
    have hk := (Cs.new w 28 _).below hb (by rw [World.size_alloc]; omega)
    obtain ⟨p0, p1, p2, p3, p4, p5, p6, p7, p8, p9, p10, p11, p12⟩ := Cs.cal (c := c) hk
    have hlt := hk.lt
    have hne : w.heap.size ≠ w1.heap.size := by omega
    have HB := Lib.hid (below_chain (below_new1 w _) hb)
    have HK := Lib.hid hk
    clear hk hb
    go_wp2_with fail
    go_ret
    exact ⟨by simp, (below_chain HB.out (below_new1 w1 _))⟩
  · skip
    rcases b1 with _ | _
    · skip
      go_enter Tryd.func12, Tryd.ntmps12
      go_wp2_with fail
      refine (HO.out _).mono ?_
      rintro e w1 ⟨rfl, hb⟩
      have hk := (Cs.new w 28 _).below hb (by rw [World.size_alloc]; omega)
      obtain ⟨p0, p1, p2, p3, p4, p5, p6, p7, p8, p9, p10, p11, p12⟩ := Cs.cal (c := c) hk
      have hlt := hk.lt
      have hne : w.heap.size ≠ w1.heap.size := by omega
      have HB := Lib.hid (below_chain (below_new1 w _) hb)
      have HK := Lib.hid hk
      clear hk hb
      go_wp2_with fail
      refine (HSM.out _ (below_chain HB.out (below_new1 w1 _))).mono ?_
      rintro e w2 ⟨rfl, hb⟩
      have hk := ((HK.out.alloc _).below hb (by rw [World.size_alloc]; exact Nat.lt_succ_of_lt HK.out.lt))
      obtain ⟨q0, q1, q2, q3, q4, q5, q6, q7, q8, q9, q10, q11, q12⟩ := Cs.cal (c := c) hk
      have HB2 := Lib.hid (below_chain (below_chain HB.out (below_new1 w1 _)) hb)
      clear hk hb
      go_wp2_with fail
      go_ret
      exact ⟨by simp, HB2.out⟩
    · skip
      by_cases p22 : c.client < 4
      · have q22 : decide ((c.client : Int) < 4) = true := decide_eq_true (by omega)
        rw [q22]
        by_cases p23 : 1 ≤ c.inc
        · have q23 : decide (1 ≤ (c.inc : Int)) = true := decide_eq_true (by omega)
          rw [q23]
          by_cases p24 : 1 ≤ c.seq
          · have q24 : decide (1 ≤ (c.seq : Int)) = true := decide_eq_true (by omega)
            rw [q24]
            go_enter Tryd.func12, Tryd.ntmps12
            go_wp2_with fail
            refine (HO.out _).mono ?_
            rintro e w1 ⟨rfl, hb⟩
            have hk := (Cs.new w 28 _).below hb (by rw [World.size_alloc]; omega)
            obtain ⟨p0, p1, p2, p3, p4, p5, p6, p7, p8, p9, p10, p11, p12⟩ := Cs.cal (c := c) hk
            have hlt := hk.lt
            have hne : w.heap.size ≠ w1.heap.size := by omega
            have HB := Lib.hid (below_chain (below_new1 w _) hb)
            have HK := Lib.hid hk
            clear hk hb
            go_wp2_with fail
            refine (HSM.out _ (below_chain HB.out (below_new1 w1 _))).mono ?_
            rintro e w2 ⟨rfl, hb⟩
            have hk := ((HK.out.alloc _).below hb (by rw [World.size_alloc]; exact Nat.lt_succ_of_lt HK.out.lt))
            obtain ⟨q0, q1, q2, q3, q4, q5, q6, q7, q8, q9, q10, q11, q12⟩ := Cs.cal (c := c) hk
            have HB2 := Lib.hid (below_chain (below_chain HB.out (below_new1 w1 _)) hb)
            clear hk hb
            go_wp2_with fail
            refine (HFD.out _).mono ?_
            rintro e w3 ⟨rfl, hb⟩
            have HB3 := Lib.hid (below_chain HB2.out hb)
            clear hb
            go_wp2_with fail
            go_ret
            exact ⟨by simp, HB3.out⟩
          · have q24 : decide (1 ≤ (c.seq : Int)) = false := decide_eq_false (by omega)
            rw [q24]
            go_enter Tryd.func12, Tryd.ntmps12
            go_wp2_with fail
            refine (HO.out _).mono ?_
            rintro e w1 ⟨rfl, hb⟩
            have hk := (Cs.new w 28 _).below hb (by rw [World.size_alloc]; omega)
            obtain ⟨p0, p1, p2, p3, p4, p5, p6, p7, p8, p9, p10, p11, p12⟩ := Cs.cal (c := c) hk
            have hlt := hk.lt
            have hne : w.heap.size ≠ w1.heap.size := by omega
            have HB := Lib.hid (below_chain (below_new1 w _) hb)
            have HK := Lib.hid hk
            clear hk hb
            go_wp2_with fail
            refine (HSM.out _ (below_chain HB.out (below_new1 w1 _))).mono ?_
            rintro e w2 ⟨rfl, hb⟩
            have hk := ((HK.out.alloc _).below hb (by rw [World.size_alloc]; exact Nat.lt_succ_of_lt HK.out.lt))
            obtain ⟨q0, q1, q2, q3, q4, q5, q6, q7, q8, q9, q10, q11, q12⟩ := Cs.cal (c := c) hk
            have HB2 := Lib.hid (below_chain (below_chain HB.out (below_new1 w1 _)) hb)
            clear hk hb
            go_wp2_with fail
            go_ret
            exact ⟨by simp, HB2.out⟩
        · have q23 : decide (1 ≤ (c.inc : Int)) = false := decide_eq_false (by omega)
          rw [q23]
          go_enter Tryd.func12, Tryd.ntmps12
          go_wp2_with fail
          refine (HO.out _).mono ?_
          rintro e w1 ⟨rfl, hb⟩
          have hk := (Cs.new w 28 _).below hb (by rw [World.size_alloc]; omega)
          obtain ⟨p0, p1, p2, p3, p4, p5, p6, p7, p8, p9, p10, p11, p12⟩ := Cs.cal (c := c) hk
          have hlt := hk.lt
          have hne : w.heap.size ≠ w1.heap.size := by omega
          have HB := Lib.hid (below_chain (below_new1 w _) hb)
          have HK := Lib.hid hk
          clear hk hb
          go_wp2_with fail
          refine (HSM.out _ (below_chain HB.out (below_new1 w1 _))).mono ?_
          rintro e w2 ⟨rfl, hb⟩
          have hk := ((HK.out.alloc _).below hb (by rw [World.size_alloc]; exact Nat.lt_succ_of_lt HK.out.lt))
          obtain ⟨q0, q1, q2, q3, q4, q5, q6, q7, q8, q9, q10, q11, q12⟩ := Cs.cal (c := c) hk
          have HB2 := Lib.hid (below_chain (below_chain HB.out (below_new1 w1 _)) hb)
          clear hk hb
          go_wp2_with fail
          go_ret
          exact ⟨by simp, HB2.out⟩
      · have q22 : decide ((c.client : Int) < 4) = false := decide_eq_false (by omega)
        rw [q22]
        go_enter Tryd.func12, Tryd.ntmps12
        go_wp2_with fail
        refine (HO.out _).mono ?_
        rintro e w1 ⟨rfl, hb⟩
        have hk := (Cs.new w 28 _).below hb (by rw [World.size_alloc]; omega)
        obtain ⟨p0, p1, p2, p3, p4, p5, p6, p7, p8, p9, p10, p11, p12⟩ := Cs.cal (c := c) hk
        have hlt := hk.lt
        have hne : w.heap.size ≠ w1.heap.size := by omega
        have HB := Lib.hid (below_chain (below_new1 w _) hb)
        have HK := Lib.hid hk
        clear hk hb
        go_wp2_with fail
        refine (HSM.out _ (below_chain HB.out (below_new1 w1 _))).mono ?_
        rintro e w2 ⟨rfl, hb⟩
        have hk := ((HK.out.alloc _).below hb (by rw [World.size_alloc]; exact Nat.lt_succ_of_lt HK.out.lt))
        obtain ⟨q0, q1, q2, q3, q4, q5, q6, q7, q8, q9, q10, q11, q12⟩ := Cs.cal (c := c) hk
        have HB2 := Lib.hid (below_chain (below_chain HB.out (below_new1 w1 _)) hb)
        clear hk hb
        go_wp2_with fail
        go_ret
        exact ⟨by simp, HB2.out⟩

end Go.Proofs.YthfaemcpheecfaaDoor
