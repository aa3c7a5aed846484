/- TzPK: TzQ TzP TzR. -/
import Derived.Test.YtenpmbfncnepgaaDoorTzHK
import Derived.Test.YtenpmbfncnepgaaDoorTzLK
/- The program: asks in a slice; Find, Lookup. -/
namespace Go.Proofs.YtenpmbfncnepgaaDoor
open Go.RowKit Go.Shelf
set_option linter.unusedVariables false
set_option maxRecDepth 100000
set_option linter.unusedSimpArgs false

theorem kept_ask (K : Prop) (v : Value) (s : Nat) : Kept fun u => K → AskV u v s := fun a b h hb k => (h k).later hb
theorem infoHandle13 : (Tryd.prog.info? 39).map (·.size) = some 2 := by kernel_rfl
set_option maxHeartbeats 4000000 in
theorem run_asks2 {a : Act} {o : Oper} {w : World} {x0 : Operand} {v0 : Value} {x1 : Operand} {v1 : Value} (ho : o.op = .buildSlice 78 2 #[(0, x0), (1, x1)]) (h0 : a.eval x0 = v0) (h1 : a.eval x1 = v1) (k0 : v0.oneCell' = true) (k1 : v1.oneCell' = true) : (execOp a.eval o).run Tryd.prog w = .ok (.value (.slice (some ⟨w.heap.size, 0, none⟩) 2 2)) (w.alloc (.cells #[v0, v1] 55)) := by
  have c0 := cells_single k0
  unfold Value.cells at c0
  have c1 := cells_single k1
  unfold Value.cells at c1
  unfold execOp
  simp only [ho, h0, h1, List.map_toArray, List.map_cons, List.map_nil]
  go_simp
  try simp [c0, c1]
theorem wpList_asks2 {w : World} {ops : Array Oper} {rest : List Oper} {o : Oper} {a : Act} {Q : Exit → Act → World → Prop} (hgd : o.guard = none) (x0 : Operand) (x1 : Operand) (ho : o.op = .buildSlice 78 2 #[(0, x0), (1, x1)]) (v0 : Value) (v1 : Value) (h0 : a.eval x0 = v0) (h1 : a.eval x1 = v1) (k0 : v0.oneCell' = true) (k1 : v1.oneCell' = true) 
    (hK : ∀ g w', Cs w' g 55 #[v0, v1] → Below w.heap.size w w' → w.heap.size ≤ g → wpList Tryd.prog ops Q rest (a.put o.dst (.slice (some ⟨g, 0, none⟩) 2 2)) w') : wpList Tryd.prog ops Q (o :: rest) a w :=
  wpList_plain hgd fun _ hh => wp_of_run2 (run_asks2 ho h0 h1 k0 k1) (hh _ _ (hK _ _ (Cs.new _ _ _) ((Below.refl _ _).alloc (Nat.le_refl _) _) (Nat.le_refl _)))
set_option maxHeartbeats 4000000 in
theorem run_asks5 {a : Act} {o : Oper} {w : World} {x0 : Operand} {v0 : Value} {x1 : Operand} {v1 : Value} {x2 : Operand} {v2 : Value} {x3 : Operand} {v3 : Value} {x4 : Operand} {v4 : Value} (ho : o.op = .buildSlice 78 5 #[(0, x0), (1, x1), (2, x2), (3, x3), (4, x4)]) (h0 : a.eval x0 = v0) (h1 : a.eval x1 = v1) (h2 : a.eval x2 = v2) (h3 : a.eval x3 = v3) (h4 : a.eval x4 = v4) (k0 : v0.oneCell' = true) (k1 : v1.oneCell' = true) (k2 : v2.oneCell' = true) (k3 : v3.oneCell' = true) (k4 : v4.oneCell' = true) : (execOp a.eval o).run Tryd.prog w = .ok (.value (.slice (some ⟨w.heap.size, 0, none⟩) 5 5)) (w.alloc (.cells #[v0, v1, v2, v3, v4] 55)) := by
  have c0 := cells_single k0
  unfold Value.cells at c0
  have c1 := cells_single k1
  unfold Value.cells at c1
  have c2 := cells_single k2
  unfold Value.cells at c2
  have c3 := cells_single k3
  unfold Value.cells at c3
  have c4 := cells_single k4
  unfold Value.cells at c4
  unfold execOp
  simp only [ho, h0, h1, h2, h3, h4, List.map_toArray, List.map_cons, List.map_nil]
  go_simp
  try simp [c0, c1, c2, c3, c4]
theorem wpList_asks5 {w : World} {ops : Array Oper} {rest : List Oper} {o : Oper} {a : Act} {Q : Exit → Act → World → Prop} (hgd : o.guard = none) (x0 : Operand) (x1 : Operand) (x2 : Operand) (x3 : Operand) (x4 : Operand) (ho : o.op = .buildSlice 78 5 #[(0, x0), (1, x1), (2, x2), (3, x3), (4, x4)]) (v0 : Value) (v1 : Value) (v2 : Value) (v3 : Value) (v4 : Value) (h0 : a.eval x0 = v0) (h1 : a.eval x1 = v1) (h2 : a.eval x2 = v2) (h3 : a.eval x3 = v3) (h4 : a.eval x4 = v4) (k0 : v0.oneCell' = true) (k1 : v1.oneCell' = true) (k2 : v2.oneCell' = true) (k3 : v3.oneCell' = true) (k4 : v4.oneCell' = true) 
    (hK : ∀ g w', Cs w' g 55 #[v0, v1, v2, v3, v4] → Below w.heap.size w w' → w.heap.size ≤ g → wpList Tryd.prog ops Q rest (a.put o.dst (.slice (some ⟨g, 0, none⟩) 5 5)) w') : wpList Tryd.prog ops Q (o :: rest) a w :=
  wpList_plain hgd fun _ hh => wp_of_run2 (run_asks5 ho h0 h1 h2 h3 h4 k0 k1 k2 k3 k4) (hh _ _ (hK _ _ (Cs.new _ _ _) ((Below.refl _ _).alloc (Nat.le_refl _) _) (Nat.le_refl _)))
set_option maxHeartbeats 4000000 in
theorem run_asks8 {a : Act} {o : Oper} {w : World} {x0 : Operand} {v0 : Value} {x1 : Operand} {v1 : Value} {x2 : Operand} {v2 : Value} {x3 : Operand} {v3 : Value} {x4 : Operand} {v4 : Value} {x5 : Operand} {v5 : Value} {x6 : Operand} {v6 : Value} {x7 : Operand} {v7 : Value} (ho : o.op = .buildSlice 78 8 #[(0, x0), (1, x1), (2, x2), (3, x3), (4, x4), (5, x5), (6, x6), (7, x7)]) (h0 : a.eval x0 = v0) (h1 : a.eval x1 = v1) (h2 : a.eval x2 = v2) (h3 : a.eval x3 = v3) (h4 : a.eval x4 = v4) (h5 : a.eval x5 = v5) (h6 : a.eval x6 = v6) (h7 : a.eval x7 = v7) (k0 : v0.oneCell' = true) (k1 : v1.oneCell' = true) (k2 : v2.oneCell' = true) (k3 : v3.oneCell' = true) (k4 : v4.oneCell' = true) (k5 : v5.oneCell' = true) (k6 : v6.oneCell' = true) (k7 : v7.oneCell' = true) : (execOp a.eval o).run Tryd.prog w = .ok (.value (.slice (some ⟨w.heap.size, 0, none⟩) 8 8)) (w.alloc (.cells #[v0, v1, v2, v3, v4, v5, v6, v7] 55)) := by
  have c0 := cells_single k0
  unfold Value.cells at c0
  have c1 := cells_single k1
  unfold Value.cells at c1
  have c2 := cells_single k2
  unfold Value.cells at c2
  have c3 := cells_single k3
  unfold Value.cells at c3
  have c4 := cells_single k4
  unfold Value.cells at c4
  have c5 := cells_single k5
  unfold Value.cells at c5
  have c6 := cells_single k6
  unfold Value.cells at c6
  have c7 := cells_single k7
  unfold Value.cells at c7
  unfold execOp
  simp only [ho, h0, h1, h2, h3, h4, h5, h6, h7, List.map_toArray, List.map_cons, List.map_nil]
  go_simp
  try simp [c0, c1, c2, c3, c4, c5, c6, c7]
theorem wpList_asks8 {w : World} {ops : Array Oper} {rest : List Oper} {o : Oper} {a : Act} {Q : Exit → Act → World → Prop} (hgd : o.guard = none) (x0 : Operand) (x1 : Operand) (x2 : Operand) (x3 : Operand) (x4 : Operand) (x5 : Operand) (x6 : Operand) (x7 : Operand) (ho : o.op = .buildSlice 78 8 #[(0, x0), (1, x1), (2, x2), (3, x3), (4, x4), (5, x5), (6, x6), (7, x7)]) (v0 : Value) (v1 : Value) (v2 : Value) (v3 : Value) (v4 : Value) (v5 : Value) (v6 : Value) (v7 : Value) (h0 : a.eval x0 = v0) (h1 : a.eval x1 = v1) (h2 : a.eval x2 = v2) (h3 : a.eval x3 = v3) (h4 : a.eval x4 = v4) (h5 : a.eval x5 = v5) (h6 : a.eval x6 = v6) (h7 : a.eval x7 = v7) (k0 : v0.oneCell' = true) (k1 : v1.oneCell' = true) (k2 : v2.oneCell' = true) (k3 : v3.oneCell' = true) (k4 : v4.oneCell' = true) (k5 : v5.oneCell' = true) (k6 : v6.oneCell' = true) (k7 : v7.oneCell' = true) 
    (hK : ∀ g w', Cs w' g 55 #[v0, v1, v2, v3, v4, v5, v6, v7] → Below w.heap.size w w' → w.heap.size ≤ g → wpList Tryd.prog ops Q rest (a.put o.dst (.slice (some ⟨g, 0, none⟩) 8 8)) w') : wpList Tryd.prog ops Q (o :: rest) a w :=
  wpList_plain hgd fun _ hh => wp_of_run2 (run_asks8 ho h0 h1 h2 h3 h4 h5 h6 h7 k0 k1 k2 k3 k4 k5 k6 k7) (hh _ _ (hK _ _ (Cs.new _ _ _) ((Below.refl _ _).alloc (Nat.le_refl _) _) (Nat.le_refl _)))
set_option maxHeartbeats 4000000 in
theorem run_asks9 {a : Act} {o : Oper} {w : World} {x0 : Operand} {v0 : Value} {x1 : Operand} {v1 : Value} {x2 : Operand} {v2 : Value} {x3 : Operand} {v3 : Value} {x4 : Operand} {v4 : Value} {x5 : Operand} {v5 : Value} {x6 : Operand} {v6 : Value} {x7 : Operand} {v7 : Value} {x8 : Operand} {v8 : Value} (ho : o.op = .buildSlice 78 9 #[(0, x0), (1, x1), (2, x2), (3, x3), (4, x4), (5, x5), (6, x6), (7, x7), (8, x8)]) (h0 : a.eval x0 = v0) (h1 : a.eval x1 = v1) (h2 : a.eval x2 = v2) (h3 : a.eval x3 = v3) (h4 : a.eval x4 = v4) (h5 : a.eval x5 = v5) (h6 : a.eval x6 = v6) (h7 : a.eval x7 = v7) (h8 : a.eval x8 = v8) (k0 : v0.oneCell' = true) (k1 : v1.oneCell' = true) (k2 : v2.oneCell' = true) (k3 : v3.oneCell' = true) (k4 : v4.oneCell' = true) (k5 : v5.oneCell' = true) (k6 : v6.oneCell' = true) (k7 : v7.oneCell' = true) (k8 : v8.oneCell' = true) : (execOp a.eval o).run Tryd.prog w = .ok (.value (.slice (some ⟨w.heap.size, 0, none⟩) 9 9)) (w.alloc (.cells #[v0, v1, v2, v3, v4, v5, v6, v7, v8] 55)) := by
  have c0 := cells_single k0
  unfold Value.cells at c0
  have c1 := cells_single k1
  unfold Value.cells at c1
  have c2 := cells_single k2
  unfold Value.cells at c2
  have c3 := cells_single k3
  unfold Value.cells at c3
  have c4 := cells_single k4
  unfold Value.cells at c4
  have c5 := cells_single k5
  unfold Value.cells at c5
  have c6 := cells_single k6
  unfold Value.cells at c6
  have c7 := cells_single k7
  unfold Value.cells at c7
  have c8 := cells_single k8
  unfold Value.cells at c8
  unfold execOp
  simp only [ho, h0, h1, h2, h3, h4, h5, h6, h7, h8, List.map_toArray, List.map_cons, List.map_nil]
  go_simp
  try simp [c0, c1, c2, c3, c4, c5, c6, c7, c8]
theorem wpList_asks9 {w : World} {ops : Array Oper} {rest : List Oper} {o : Oper} {a : Act} {Q : Exit → Act → World → Prop} (hgd : o.guard = none) (x0 : Operand) (x1 : Operand) (x2 : Operand) (x3 : Operand) (x4 : Operand) (x5 : Operand) (x6 : Operand) (x7 : Operand) (x8 : Operand) (ho : o.op = .buildSlice 78 9 #[(0, x0), (1, x1), (2, x2), (3, x3), (4, x4), (5, x5), (6, x6), (7, x7), (8, x8)]) (v0 : Value) (v1 : Value) (v2 : Value) (v3 : Value) (v4 : Value) (v5 : Value) (v6 : Value) (v7 : Value) (v8 : Value) (h0 : a.eval x0 = v0) (h1 : a.eval x1 = v1) (h2 : a.eval x2 = v2) (h3 : a.eval x3 = v3) (h4 : a.eval x4 = v4) (h5 : a.eval x5 = v5) (h6 : a.eval x6 = v6) (h7 : a.eval x7 = v7) (h8 : a.eval x8 = v8) (k0 : v0.oneCell' = true) (k1 : v1.oneCell' = true) (k2 : v2.oneCell' = true) (k3 : v3.oneCell' = true) (k4 : v4.oneCell' = true) (k5 : v5.oneCell' = true) (k6 : v6.oneCell' = true) (k7 : v7.oneCell' = true) (k8 : v8.oneCell' = true) 
    (hK : ∀ g w', Cs w' g 55 #[v0, v1, v2, v3, v4, v5, v6, v7, v8] → Below w.heap.size w w' → w.heap.size ≤ g → wpList Tryd.prog ops Q rest (a.put o.dst (.slice (some ⟨g, 0, none⟩) 9 9)) w') : wpList Tryd.prog ops Q (o :: rest) a w :=
  wpList_plain hgd fun _ hh => wp_of_run2 (run_asks9 ho h0 h1 h2 h3 h4 h5 h6 h7 h8 k0 k1 k2 k3 k4 k5 k6 k7 k8) (hh _ _ (hK _ _ (Cs.new _ _ _) ((Below.refl _ _).alloc (Nat.le_refl _) _) (Nat.le_refl _)))
theorem name_len {l : List UInt8} (h : nameL l = true) : l.length ≤ 32 := by
  unfold nameL at h
  simp only [Bool.and_eq_true, decide_eq_true_eq] at h
  exact h.1.1.1.2
/-- a status behind another -/
def orS (a b : Nat) : Nat := if a = 0 then b else a
theorem Chain.cons {w : World} {v : Value} {r : List Value} {s1 s' : Nat} (h256 : s1 < 256) (hA : AskV w v s1) (h : s1 = 0 → Chain w r s') : Chain w (v :: r) (orS s1 s') := by
  refine ⟨s1, h256, hA, fun e => ?_, fun e => ?_⟩
  · unfold orS; rw [if_pos e]; exact h e
  · unfold orS; rw [if_neg e]
theorem st_lt (b : Bool) {st : Nat} (h : st < 256) : stOf b st < 256 := by cases b <;> simp [stOf] <;> omega
theorem kind_lt (r : Option Nd) (d : Bool) : kindS r d < 256 := by
  unfold kindS
  cases r
  · simp
  · dsimp only
    repeat (first | omega | split)
theorem small_of {w : World} {F : Nat → Prop} {cs : List Value} {t : Tr} (hm : MayT t) (h : TrAt w F cs t) : SmallT t := by
  obtain ⟨nv, ss, rfl, -, hse, hl4, hl12, -⟩ := h
  obtain ⟨x0, x1, x2, x3, b0, b1, b2, b3, e, -, h0, h1, h2, h3, hn⟩ := hse.four hl4 hl12
  exact ⟨by have := hm.many; omega, fun n hn => ⟨by have := (hm.ok n hn).many; omega, fun x hx => by have := name_len ((hm.ok n hn).good x hx).1; omega, by have := (hm.ok n hn).size; omega⟩, fun x hx => (hn x hx).2.2⟩
theorem nd_small {t : Tr} (hm : MayT t) {n : Nd} (hn : n ∈ t.nodes) : n.names.length ≤ 1000000 ∧ (∀ e ∈ n.names, e.1.length ≤ 1000000) ∧ n.data.length ≤ 140737488355328 :=
  ⟨by have := (hm.ok n hn).many; omega, fun x hx => by have := name_len ((hm.ok n hn).good x hx).1; omega, by have := (hm.ok n hn).size; omega⟩
theorem May_at (t : Tr) (cs : List Value) (F : Nat → Prop) (w : World) (hT : Tabs w) (h : TrAt w F cs t) (hm : MayT t) : ∀ W, Below w.heap.size w W → Calls Tryd.prog 38 #[.agg cs.toArray] W fun e w' => e = .returned (.bool true) ∧ Below W.heap.size W w' :=
  fun W hW => May_v t cs F W (hT.below hW) (h.below hW) hm
theorem copy_at {n : Nd} {w : World} {e : Ending} {w' : World} (h : CopyN n w e w') : ∃ ds, e = .returned (.agg ds.toArray) ∧ NdAt w' (w.heap.size ≤ ·) ds n ∧ Below w.heap.size w w' := by
  obtain ⟨ds, he, hd, hb⟩ := h
  exact ⟨ds, he, (hd.mono fun k _ hk => hk.1).at, hb⟩
theorem nd0_at (w : World) (F : Nat → Prop) : NdAt w F nodeZ nd0 := ⟨.slice none 0 0, .slice none 0 0, rfl, BsV.nil _ _, LsV.nil _ _, by decide, by decide, by decide⟩
theorem mem_of_getD {l : List Nd} {i : Nat} (h : i < l.length) : l[i] ∈ l := List.getElem_mem h
set_option maxHeartbeats 16000000 in
theorem Find_v (t : Tr) (cs : List Value) (h0 : Nat × Nat) (F : Nat → Prop) (w : World) (hT : Tabs w) (h : TrAt w F cs t) (hm : MayT t) :
    Calls Tryd.prog 8 #[.agg cs.toArray, .agg (hdC h0).toArray] w fun e w' => ∃ ds, e = .returned (.tuple #[.agg ds.toArray, .bool (findT t.nodes h0).isSome]) ∧ NdAt w' (NewF F w) ds ((findT t.nodes h0).getD nd0) ∧ Below w.heap.size w w' := by
  have HTR := Lib.hid h
  have hlen := h.len
  obtain ⟨nv, ss, rfl, ⟨A, c, rfl, hr, -⟩, hse, hl4, hl12, hbig⟩ := h
  have HR := Lib.hid hr
  have HT := Lib.hid hT
  have HM := Lib.hid hm
  obtain ⟨cl, hcl⟩ : ∃ cl, cl = Value.slice A t.nodes.length c :: .int .u32 (t.lastGen : Int) :: .int .u32 (t.boot : Int) :: .int .u32 (t.count : Int) :: ss := ⟨_, rfl⟩
  rw [← hcl] at hlen HTR ⊢
  have HLN := Lib.hid hlen
  have C0 := Lib.hid (show cl[0]? = some (.slice A t.nodes.length c) by rw [hcl]; rfl)
  have iln : t.nodes.length ≤ 64 := hm.many
  clear hr hT hm hse hl4 hl12 hbig hcl hlen
  go_enter Tryd.func8, Tryd.ntmps8
  go_wp2_with (first
    | ((with_reducible show wpList _ _ _ _ _ w); refine wpList_boxS rfl 31 _ rfl cl rfl ?_; intro g1 w1 hk1 hb1 hg1; go_frame; have C1 := Lib.hid hk1; have B1 := Lib.hid hb1; clear hk1 hb1 hg1)
    | ((with_reducible show wpList _ _ _ _ _ w1); refine wpList_boxS rfl 39 _ rfl (hdC h0) rfl ?_; intro g2 w2 hk1 hb1 hg1; go_frame; have C2 := Lib.hid hk1; have C12 := Lib.hid (C1.out.below hb1 C1.out.lt); have B2 := Lib.hid (below_chain B1.out hb1); clear hk1 hb1 hg1)
    | ((with_reducible show wpList _ _ _ _ _ w2); refine wpList_allocS rfl 34 rfl nodeZ nodeZero ?_; intro g3 w3 hk1 hb1 hg1; go_frame; have C3 := Lib.hid hk1; have C23 := Lib.hid (C2.out.below hb1 C2.out.lt); have C13 := Lib.hid (C12.out.below hb1 C12.out.lt); have B3 := Lib.hid (below_chain B2.out hb1); have G3 := Lib.hid (Nat.le_trans B2.out.size hg1); have q0 : w3.cell? ⟨g1, 0, none⟩ = some (.slice A t.nodes.length c) := (C12.out.below hb1 C12.out.lt).cell 0 (by simpa using C0.out); clear hk1 hb1 hg1)
    | ((with_reducible show wpList _ _ _ _ _ w3); refine wpList_loadS rfl 39 _ rfl g2 rfl (hdC h0) C23.out _ Tryd.underlying39 rfl infoHandle13 ?_; go_frame)
    | fail)
  refine (nodeOf_v t.nodes h0 A c F w3 (by omega) HM.out.rise (HR.out.below B3.out)).mono ?_
  rintro e w4 ⟨⟨vp, rfl, hp⟩, hb⟩
  have HP := Lib.hid hp
  have HPO := Lib.hid hp.one
  have B4 := Lib.hid (below_chain B3.out hb)
  have C14 := Lib.hid (C13.out.below hb C13.out.lt)
  have C34 := Lib.hid (C3.out.below hb C3.out.lt)
  clear hp hb q0
  go_wp2_with (first
    | ((with_reducible show wpList _ _ _ _ _ w4); refine wpList_loadS rfl 31 _ rfl g1 rfl cl C14.out _ Tryd.underlying31 rfl (by rw [HLN.out]; exact infoTree) ?_; go_frame)
    | fail)
  refine (mayBe_v cl w4 HLN.out (May_at t cl F w4 (HT.out.below B4.out) (HTR.out.below B4.out) HM.out)).mono ?_
  rintro e a0 ⟨v0, rfl, k0, hA, hb⟩
  have A0_0 := Lib.hid (hA trivial)
  have KK0 := Lib.hid k0
  have BA0 := Lib.hid (hb)
  clear hA hb k0 
  go_wp2_with fail
  refine (isThere_v vp 1 A t.nodes (findT t.nodes h0) a0 HP.out).mono ?_
  rintro e a1 ⟨v1, rfl, k1, hA, hb⟩
  have A1_1 := Lib.hid (hA trivial)
  have KK1 := Lib.hid k1
  have BA1 := Lib.hid (below_chain BA0.out hb)
  have A0_1 := Lib.hid (A0_0.out.later hb)
  clear hA hb k1 A0_0
  go_wp2_with (first
    | ((with_reducible show wpList _ _ _ _ _ a1); refine wpList_asks2 rfl _ _ rfl v0 v1 rfl rfl KK0.out KK1.out ?_; intro gA wA hk1 hb1 hg1; go_frame; have CA := Lib.hid hk1; have Z0 := Lib.hid (A0_1.out.later hb1); have Z1 := Lib.hid (A1_1.out.later hb1); have BAA := Lib.hid (below_chain BA1.out hb1); clear hk1 hb1 hg1)
    | fail)
  have C3A := Lib.hid (C34.out.below BAA.out C34.out.lt)
  have B5 := Lib.hid (below_chain B4.out BAA.out)
  refine (first_v [v0, v1] (orS 0 (orS (stOf (findT t.nodes h0).isSome 1) 0)) gA wA (by simp) CA.out (Chain.cons (by omega) Z0.out fun _ => (Chain.cons (st_lt _ (by omega)) Z1.out fun _ => rfl))).mono ?_
  rintro e w6 ⟨rfl, hb⟩
  have B6 := Lib.hid (below_chain B5.out hb)
  have C36 := Lib.hid (C3A.out.below hb C3A.out.lt)
  clear hb A0_1 A1_1 CA Z0 Z1 KK0 KK1
  rcases HP.out with ⟨hn, rfl⟩ | ⟨i, b, off, hi, hn, rfl, rfl⟩
  · rw [hn]
    have HN := Lib.hid hn
    clear hn
    go_wp2_with (first
      | ((with_reducible show wpList _ _ _ _ _ w6); refine wpList_storeS rfl 34 _ _ rfl g3 rfl nodeZ nodeZ rfl C36.out rfl (by intro q hq; simp [nodeZ] at hq; rcases hq with rfl | rfl | rfl | rfl | rfl | rfl <;> rfl) infoNode ?_; intro w7 hk2 ht2; go_frame; have C37 := Lib.hid hk2; have T7 := Lib.hid ht2; clear hk2 ht2)
      | fail)
    refine bodyPost_ret (results_agg_tmp (P := Tryd.prog) (p := 4) (ty := 34) rfl _ _ g3 0 nodeZ rfl (At.whole C37.out) _ Tryd.underlying34 rfl infoNode) rfl ?_
    exact ⟨nodeZ, by first | rfl | (rw [HN.out]; rfl), by first | exact nd0_at _ _ | (rw [HN.out]; exact nd0_at _ _), B6.out.trans (T7.out.below B6.out.size fun q e => e ▸ G3.out)⟩
  · rw [hn]
    have HN := Lib.hid hn
    clear hn
    obtain ⟨dv, ev, hat, hd, hn1, hn2, hn3, hn4⟩ := nd_head (HR.out.below B6.out) hi
    have HAT := Lib.hid hat
    have HND := Lib.hid (show NdAt w6 F (ndC t.nodes[i] dv ev) t.nodes[i] from ⟨dv, ev, rfl, hd, hn1, hn2, hn3, hn4⟩)
    have HSM := Lib.hid (nd_small HM.out (List.getElem_mem hi))
    clear hat hd hn1 hn2 hn3 hn4
    generalize t.nodes[i] = n at *
    go_wp2_with (first
      | ((with_reducible show wpList _ _ _ _ _ w6); refine wpList_load_agg rfl 34 _ rfl b (off + i * 6) rfl (ndC n dv ev) HAT.out _ Tryd.underlying34 rfl infoNode ?_; go_frame)
      | fail)
    refine (copyNode_v n (ndC n dv ev) F w6 HND.out HSM.out.1 HSM.out.2.1 HSM.out.2.2).mono ?_
    rintro e w7 hcp
    obtain ⟨ds, rfl, hds, hb⟩ := copy_at hcp
    have ND := Lib.hid hds
    have B7 := Lib.hid (below_chain B6.out hb)
    have C37 := Lib.hid (C36.out.below hb C36.out.lt)
    have K37 := Lib.hid C36.out.lt
    clear hcp hds hb
    go_wp2_with (first
      | ((with_reducible show wpList _ _ _ _ _ w7); refine wpList_storeS rfl 34 _ _ rfl g3 rfl ds nodeZ rfl C37.out (by rw [ND.out.len]; rfl) ND.out.one (by rw [ND.out.len]; exact infoNode) ?_; intro w8 hk2 ht2; go_frame; have C38 := Lib.hid hk2; have T8 := Lib.hid ht2; clear hk2 ht2)
      | fail)
    refine bodyPost_ret (results_agg_tmp (P := Tryd.prog) (p := 4) (ty := 34) rfl _ _ g3 0 ds rfl (At.whole C38.out) _ Tryd.underlying34 rfl (by rw [ND.out.len]; exact infoNode)) rfl ?_
    have e8 : NdAt w8 (NewF F w) ds n := (ND.out.turn T8.out fun k hk e => by have := K37.out; omega).mono fun k _ hk => Or.inr (by have := B6.out.size; omega)
    exact ⟨ds, by first | rfl | (rw [HN.out]; rfl), by first | exact e8 | (rw [HN.out]; exact e8), B7.out.trans (T8.out.below B7.out.size fun q e => e ▸ G3.out)⟩
theorem named_some {t : Tr} (hm : MayT t) {d : Nd} (hd : d ∈ t.nodes) {nm : Key} {x : Nat} (hx : inE d.names nm = some x) : ∃ m, nodeT t.nodes x = some m ∧ m ∈ t.nodes ∧ m.ino = x ∧ (nm, x) ∈ d.names := by
  have h1 := (inE_some (hm.ok d hd).sort).1 hx
  obtain ⟨m, h2, h3⟩ := mem_inos.1 ((hm.ok d hd).good _ h1).2
  exact ⟨m, (nodeT_some hm.rise).2 ⟨h2, h3⟩, h2, h3, h1⟩
theorem look_is {t : Tr} (hm : MayT t) (h : Nat × Nat) (nm : Key) : (lookupT t h nm).2 = orS 0 (orS (stOf (findT t.nodes h).isSome 1) (orS (kindS (findT t.nodes h) true) (orS (stOf (nameL nm) 8) (orS (stOf (namedT t.nodes (findT t.nodes h) nm).isSome 2) 0)))) ∧
    ((lookupT t h nm).2 ≠ 0 → (lookupT t h nm).1 = nd0) ∧ ((lookupT t h nm).2 = 0 → namedT t.nodes (findT t.nodes h) nm = some (lookupT t h nm).1) := by
  unfold lookupT
  rw [if_pos hm]
  cases hd : findT t.nodes h with
  | none => simp [orS, stOf, namedT]
  | some d =>
    have hmem := ((findT_some hm.rise).1 hd).1
    cases hdir : d.dir
    · simp [orS, stOf, kindS, hdir]
    · cases hnm : nameL nm
      · simp [orS, stOf, kindS, hdir, hnm]
      · cases hx : inE d.names nm with
        | none => simp [orS, stOf, kindS, hdir, hnm, namedT, hx]
        | some x =>
          obtain ⟨m, h1, -⟩ := named_some hm hmem hx
          simp [orS, stOf, kindS, hdir, hnm, namedT, hx, h1]
set_option maxHeartbeats 16000000 in
theorem Lookup_v (t : Tr) (cs : List Value) (h0 : Nat × Nat) (nm : Key) (F : Nat → Prop) (w : World) (hT : Tabs w) (h : TrAt w F cs t) (hm : MayT t) :
    Calls Tryd.prog 31 #[.agg cs.toArray, .agg (hdC h0).toArray, sv nm] w fun e w' => ∃ ds, e = .returned (.tuple #[.agg ds.toArray, .int .u8 ((lookupT t h0 nm).2 : Int)]) ∧ NdAt w' (NewF F w) ds (lookupT t h0 nm).1 ∧ Below w.heap.size w w' := by
  obtain ⟨LS, LN, L0⟩ := look_is hm h0 nm
  have HLS := Lib.hid LS
  have HLZ := Lib.hid LN
  have HL0 := Lib.hid L0
  clear LS LN L0
  have HTR := Lib.hid h
  have hlen := h.len
  obtain ⟨nv, ss, rfl, ⟨A, c, rfl, hr, -⟩, hse, hl4, hl12, hbig⟩ := h
  have HR := Lib.hid hr
  have HT := Lib.hid hT
  have HM := Lib.hid hm
  obtain ⟨cl, hcl⟩ : ∃ cl, cl = Value.slice A t.nodes.length c :: .int .u32 (t.lastGen : Int) :: .int .u32 (t.boot : Int) :: .int .u32 (t.count : Int) :: ss := ⟨_, rfl⟩
  rw [← hcl] at hlen HTR ⊢
  have HLN := Lib.hid hlen
  have C0 := Lib.hid (show cl[0]? = some (.slice A t.nodes.length c) by rw [hcl]; rfl)
  have iln : t.nodes.length ≤ 64 := hm.many
  clear hr hT hm hse hl4 hl12 hbig hcl hlen
  obtain ⟨L, hL⟩ : ∃ L, L = lookupT t h0 nm := ⟨_, rfl⟩
  rw [← hL] at HLS HLZ HL0 ⊢
  clear hL
  have HSRT := Lib.hid (show ∀ d ∈ t.nodes, SortE d.names ∧ d.names.length ≤ 140737488355328 from fun d hd => ⟨(HM.out.ok d hd).sort, by have := (HM.out.ok d hd).many; omega⟩)
  have HMT := Lib.hid (May_at t cl F w HT.out HTR.out HM.out)
  go_enter Tryd.func31, Tryd.ntmps31
  go_wp2_with (first
    | ((with_reducible show wpList _ _ _ _ _ w); refine wpList_boxS rfl 31 _ rfl cl rfl ?_; intro g1 w1 hk1 hb1 hg1; go_frame; have C1 := Lib.hid hk1; have B1 := Lib.hid hb1; clear hk1 hb1 hg1)
    | ((with_reducible show wpList _ _ _ _ _ w1); refine wpList_boxS rfl 39 _ rfl (hdC h0) rfl ?_; intro g2 w2 hk1 hb1 hg1; go_frame; have C2 := Lib.hid hk1; have C12 := Lib.hid (C1.out.below hb1 C1.out.lt); have B2 := Lib.hid (below_chain B1.out hb1); clear hk1 hb1 hg1)
    | ((with_reducible show wpList _ _ _ _ _ w2); refine wpList_allocS rfl 34 rfl nodeZ nodeZero ?_; intro g3 w3 hk1 hb1 hg1; go_frame; have C3 := Lib.hid hk1; have C23 := Lib.hid (C2.out.below hb1 C2.out.lt); have C13 := Lib.hid (C12.out.below hb1 C12.out.lt); have B3 := Lib.hid (below_chain B2.out hb1); have G3 := Lib.hid (Nat.le_trans B2.out.size hg1); have q0 : w3.cell? ⟨g1, 0, none⟩ = some (.slice A t.nodes.length c) := (C12.out.below hb1 C12.out.lt).cell 0 (by simpa using C0.out); clear hk1 hb1 hg1)
    | ((with_reducible show wpList _ _ _ _ _ w3); refine wpList_loadS rfl 39 _ rfl g2 rfl (hdC h0) C23.out _ Tryd.underlying39 rfl infoHandle13 ?_; go_frame)
    | fail)
  refine (nodeOf_v t.nodes h0 A c F w3 (by omega) HM.out.rise (HR.out.below B3.out)).mono ?_
  rintro e w4 ⟨⟨vp, rfl, hp⟩, hb⟩
  have HP := Lib.hid hp
  have B4 := Lib.hid (below_chain B3.out hb)
  have C14 := Lib.hid (C13.out.below hb C13.out.lt)
  have C34 := Lib.hid (C3.out.below hb C3.out.lt)
  have q0 : w4.cell? ⟨g1, 0, none⟩ = some (.slice A t.nodes.length c) := (C13.out.below hb C13.out.lt).cell 0 (by simpa using C0.out)
  clear hp hb
  go_wp2_with fail
  refine (nodeNamed_v t.nodes A c vp (findT t.nodes h0) nm F w4 (by omega) HM.out.rise HSRT.out (HR.out.below B4.out) HP.out).mono ?_
  rintro e w5 ⟨⟨vn, rfl, hp⟩, hb⟩
  have HQ := Lib.hid hp
  have B5 := Lib.hid (below_chain B4.out hb)
  have C15 := Lib.hid (C14.out.below hb C14.out.lt)
  have C35 := Lib.hid (C34.out.below hb C34.out.lt)
  clear hp hb q0
  go_wp2_with (first
    | ((with_reducible show wpList _ _ _ _ _ w5); refine wpList_loadS rfl 31 _ rfl g1 rfl cl C15.out _ Tryd.underlying31 rfl (by rw [HLN.out]; exact infoTree) ?_; go_frame)
    | fail)
  refine (mayBe_v cl w5 HLN.out fun W hW => HMT.out W (below_chain B5.out hW)).mono ?_
  rintro e a0 ⟨v0, rfl, k0, hA, hb⟩
  have A0_0 := Lib.hid (hA trivial)
  have KK0 := Lib.hid k0
  have BA0 := Lib.hid (hb)
  clear hA hb k0 
  go_wp2_with fail
  refine (isThere_v vp 1 A t.nodes (findT t.nodes h0) a0 HP.out).mono ?_
  rintro e a1 ⟨v1, rfl, k1, hA, hb⟩
  have A1_1 := Lib.hid (hA trivial)
  have KK1 := Lib.hid k1
  have BA1 := Lib.hid (below_chain BA0.out hb)
  have A0_1 := Lib.hid (A0_0.out.later hb)
  clear hA hb k1 A0_0
  go_wp2_with fail
  refine (isKind_v vp true A t.nodes (findT t.nodes h0) F a1 ((HR.out.below B5.out).below BA1.out) HP.out).mono ?_
  rintro e a2 ⟨v2, rfl, k2, hA, hb⟩
  have A2_2 := Lib.hid (hA trivial)
  have KK2 := Lib.hid k2
  have BA2 := Lib.hid (below_chain BA1.out hb)
  have A0_2 := Lib.hid (A0_1.out.later hb)
  have A1_2 := Lib.hid (A1_1.out.later hb)
  clear hA hb k2 A0_1 A1_1
  go_wp2_with fail
  refine (isName_v nm a2 (HT.out.below (below_chain B5.out BA2.out))).mono ?_
  rintro e a3 ⟨v3, rfl, k3, hA, hb⟩
  have A3_3 := Lib.hid (hA trivial)
  have KK3 := Lib.hid k3
  have BA3 := Lib.hid (below_chain BA2.out hb)
  have A0_3 := Lib.hid (A0_2.out.later hb)
  have A1_3 := Lib.hid (A1_2.out.later hb)
  have A2_3 := Lib.hid (A2_2.out.later hb)
  clear hA hb k3 A0_2 A1_2 A2_2
  go_wp2_with fail
  refine (isThere_v vn 2 A t.nodes (namedT t.nodes (findT t.nodes h0) nm) a3 HQ.out).mono ?_
  rintro e a4 ⟨v4, rfl, k4, hA, hb⟩
  have A4_4 := Lib.hid (hA trivial)
  have KK4 := Lib.hid k4
  have BA4 := Lib.hid (below_chain BA3.out hb)
  have A0_4 := Lib.hid (A0_3.out.later hb)
  have A1_4 := Lib.hid (A1_3.out.later hb)
  have A2_4 := Lib.hid (A2_3.out.later hb)
  have A3_4 := Lib.hid (A3_3.out.later hb)
  clear hA hb k4 A0_3 A1_3 A2_3 A3_3
  go_wp2_with (first
    | ((with_reducible show wpList _ _ _ _ _ a4); refine wpList_asks5 rfl _ _ _ _ _ rfl v0 v1 v2 v3 v4 rfl rfl rfl rfl rfl KK0.out KK1.out KK2.out KK3.out KK4.out ?_; intro gA wA hk1 hb1 hg1; go_frame; have CA := Lib.hid hk1; have Z0 := Lib.hid (A0_4.out.later hb1); have Z1 := Lib.hid (A1_4.out.later hb1); have Z2 := Lib.hid (A2_4.out.later hb1); have Z3 := Lib.hid (A3_4.out.later hb1); have Z4 := Lib.hid (A4_4.out.later hb1); have BAA := Lib.hid (below_chain BA4.out hb1); clear hk1 hb1 hg1)
    | fail)
  have C3A := Lib.hid (C35.out.below BAA.out C35.out.lt)
  have B6 := Lib.hid (below_chain B5.out BAA.out)
  refine (first_v [v0, v1, v2, v3, v4] (orS 0 (orS (stOf (findT t.nodes h0).isSome 1) (orS (kindS (findT t.nodes h0) true) (orS (stOf (nameL nm) 8) (orS (stOf (namedT t.nodes (findT t.nodes h0) nm).isSome 2) 0))))) gA wA (by simp) CA.out (Chain.cons (by omega) Z0.out fun _ => (Chain.cons (st_lt _ (by omega)) Z1.out fun _ => (Chain.cons (kind_lt _ _) Z2.out fun _ => (Chain.cons (st_lt _ (by omega)) Z3.out fun _ => (Chain.cons (st_lt _ (by omega)) Z4.out fun _ => rfl)))))).mono ?_
  rintro e w6 ⟨rfl, hb⟩
  rw [← HLS.out]
  have B7 := Lib.hid (below_chain B6.out hb)
  have C36 := Lib.hid (C3A.out.below hb C3A.out.lt)
  clear hb A0_4 A1_4 A2_4 A3_4 A4_4 CA Z0 Z1 Z2 Z3 Z4 KK0 KK1 KK2 KK3 KK4
  by_cases hs : L.2 = 0
  · have e0 : ((L.2 : Int) != 0) = false := by rw [hs]; rfl
    have HN := Lib.hid (HL0.out hs)
    have HS0 := Lib.hid hs
    rcases HQ.out with ⟨hn, rfl⟩ | ⟨i, b, off, hi, hn, rfl, rfl⟩
    · rw [hn] at HN
      cases HN.out
    · obtain ⟨dv, ev, hat, hd, hn1, hn2, hn3, hn4⟩ := nd_head (HR.out.below B7.out) hi
      have HE := Lib.hid (show t.nodes[i] = L.1 from Option.some.inj (hn.symm.trans HN.out))
      have HAT := Lib.hid hat
      have HND := Lib.hid (show NdAt w6 F (ndC t.nodes[i] dv ev) t.nodes[i] from ⟨dv, ev, rfl, hd, hn1, hn2, hn3, hn4⟩)
      have HSM := Lib.hid (nd_small HM.out (List.getElem_mem hi))
      clear hat hd hn1 hn2 hn3 hn4 hn HQ
      generalize t.nodes[i] = n at *
      obtain rfl := HE.out
      go_wp2_with (first
        | ((with_reducible show wpList _ _ _ _ _ w6); refine wpList_load_agg rfl 34 _ rfl b (off + i * 6) rfl (ndC L.1 dv ev) HAT.out _ Tryd.underlying34 rfl infoNode ?_; go_frame)
        | fail)
      refine (copyNode_v L.1 (ndC L.1 dv ev) F w6 HND.out HSM.out.1 HSM.out.2.1 HSM.out.2.2).mono ?_
      rintro e w7 hcp
      obtain ⟨ds, rfl, hds, hb⟩ := copy_at hcp
      have ND := Lib.hid hds
      have B8 := Lib.hid (below_chain B7.out hb)
      have C37 := Lib.hid (C36.out.below hb C36.out.lt)
      have K37 := Lib.hid C36.out.lt
      clear hcp hds hb
      go_wp2_with (first
        | ((with_reducible show wpList _ _ _ _ _ w7); refine wpList_storeS rfl 34 _ _ rfl g3 rfl ds nodeZ rfl C37.out (by rw [ND.out.len]; rfl) ND.out.one (by rw [ND.out.len]; exact infoNode) ?_; intro w8 hk2 ht2; go_frame; have C38 := Lib.hid hk2; have T8 := Lib.hid ht2; clear hk2 ht2)
        | fail)
      refine bodyPost_ret (results_agg_tmp (P := Tryd.prog) (p := 6) (ty := 34) rfl _ _ g3 0 ds rfl (At.whole C38.out) _ Tryd.underlying34 rfl (by rw [ND.out.len]; exact infoNode)) rfl ?_
      have e8 : NdAt w8 (NewF F w) ds L.1 := (ND.out.turn T8.out fun k hk e => by have := K37.out; omega).mono fun k _ hk => Or.inr (by have := B7.out.size; omega)
      exact ⟨ds, by rw [HS0.out]; rfl, e8, B8.out.trans (T8.out.below B8.out.size fun q e => e ▸ G3.out)⟩
  · have e0 : ((L.2 : Int) != 0) = true := by simp; omega
    have HZ := Lib.hid (HLZ.out hs)
    go_wp2_with (first
      | ((with_reducible show wpList _ _ _ _ _ w6); refine wpList_storeS rfl 34 _ _ rfl g3 rfl nodeZ nodeZ rfl C36.out rfl (by intro q hq; simp [nodeZ] at hq; rcases hq with rfl | rfl | rfl | rfl | rfl | rfl <;> rfl) infoNode ?_; intro w7 hk2 ht2; go_frame; have C37 := Lib.hid hk2; have T7 := Lib.hid ht2; clear hk2 ht2)
      | fail)
    refine bodyPost_ret (results_agg_tmp (P := Tryd.prog) (p := 6) (ty := 34) rfl _ _ g3 0 nodeZ rfl (At.whole C37.out) _ Tryd.underlying34 rfl infoNode) rfl ?_
    exact ⟨nodeZ, by rfl, by rw [HZ.out]; exact nd0_at _ _, B7.out.trans (T7.out.below B7.out.size fun q e => e ▸ G3.out)⟩

end Go.Proofs.YtenpmbfncnepgaaDoor

/- A tree of one's own in a box: a cell of a node changed, stamps, a node cut or put in; what the lists come to. -/
namespace Go.Proofs.YtenpmbfncnepgaaDoor
open Go.RowKit Go.Shelf
set_option linter.unusedVariables false
set_option maxRecDepth 100000
set_option linter.unusedSimpArgs false

/-- .. and no memory of the future -/
structure NxB (w : World) (N B : Nat) (nv : Value) (ss : List Value) (t : Tr) (ls : List (Nd × Sup)) (S : Sup) : Prop where
  o : NxO w N B nv ss t ls S
  top : ∀ p ∈ ls, ∀ k, p.2 k → k < w.heap.size
  topS : ∀ k, S k → k < w.heap.size
theorem NxB.below {w w' : World} {N B : Nat} {nv : Value} {ss : List Value} {t : Tr} {ls : List (Nd × Sup)} {S : Sup} (h : NxB w N B nv ss t ls S) (hb : Below w.heap.size w w') : NxB w' N B nv ss t ls S :=
  ⟨h.o.below hb, fun p hp k hk => Nat.lt_of_lt_of_le (h.top p hp k hk) hb.size, fun k hk => Nat.lt_of_lt_of_le (h.topS k hk) hb.size⟩
theorem TrO.nx {u u1 : World} {N B : Nat} {nv : Value} {ss : List Value} {t : Tr} {ls : List (Nd × Sup)} {S : Sup} (h : TrO u N nv ss t ls S) (hb : Below u.heap.size u u1) (hB : Cs u1 B 31 (trC nv t ss).toArray) (hlow : u.heap.size ≤ B) (hN : N ≤ B) : NxB u1 N B nv ss t ls S where
  o := ⟨hB, hN, (h.own.mono fun k hk hF => ⟨hF, by omega⟩).below hb, h.nds, h.dis, h.ses.turn (Turn.of_below hb fun _ => False) fun _ _ h => h, fun k hk => ⟨(h.far k hk).1, by have := (h.far k hk).2.1; omega, (h.far k hk).2.2⟩, h.len, h.big⟩
  top := fun p hp k hk => Nat.lt_of_lt_of_le (h.sup p hp k hk).2 hb.size
  topS := fun k hk => Nat.lt_of_lt_of_le (h.far k hk).2.1 hb.size
theorem NxB.blk {w : World} {N B g n c : Nat} {ss : List Value} {t : Tr} {ls : List (Nd × Sup)} {S : Sup} (h : NxB w N B (.slice (some ⟨g, 0, none⟩) n c) ss t ls S) : N ≤ g ∧ g ≠ B := h.o.own.sub g rfl
theorem apart_get {ls : List (Nd × Sup)} (h : Apart ls) {i j : Nat} (hi : i < ls.length) (hj : j < ls.length) (e : i ≠ j) (k : Nat) : ¬ (ls[i].2 k ∧ ls[j].2 k) := by
  rcases Nat.lt_or_gt_of_ne e with h1 | h1
  · exact List.pairwise_iff_getElem.1 h i j hi hj h1 k
  · exact fun hh => List.pairwise_iff_getElem.1 h j i hj hi h1 k ⟨hh.2, hh.1⟩
theorem apart_set {ls : List (Nd × Sup)} (h : Apart ls) {i : Nat} {p : Nd × Sup} (hp : ∀ j (hj : j < ls.length), j ≠ i → ∀ k, ¬ (p.2 k ∧ ls[j].2 k)) : Apart (ls.set i p) := by
  rw [Apart, List.pairwise_iff_getElem]
  intro a b ha hb hab k
  rw [List.length_set] at ha hb
  rw [List.getElem_set, List.getElem_set]
  by_cases e1 : i = a
  · rw [if_pos e1, if_neg (by omega)]
    exact hp b hb (by omega) k
  · rw [if_neg e1]
    by_cases e2 : i = b
    · rw [if_pos e2]
      exact fun hh => hp a ha (by omega) k ⟨hh.2, hh.1⟩
    · rw [if_neg e2]
      exact apart_get h ha hb (by omega) k
/-- a cell of a node -/
theorem NxB.cell {w w' : World} {N B g n c : Nat} {ss : List Value} {t : Tr} {ls : List (Nd × Sup)} {S : Sup} (h : NxB w N B (.slice (some ⟨g, 0, none⟩) n c) ss t ls S) {cur : Array Value} (hg : Cs w g 34 cur) {i f : Nat} (hi : i < ls.length) (hf : f < 6) {u : Value} {y : Nd} {G : Nat → Prop}
    (hk : Cs w' g 34 (cur.setIfInBounds (i * 6 + f) u)) (ht : Turn w w' G) (hG : ∀ k, G k → k = g ∨ (ls[i].2 k ∧ N ≤ k ∧ k ≠ B ∧ k ≠ g) ∨ w.heap.size ≤ k)
    (hy : ∀ cs, NdO w N (fun k => ((N ≤ k ∧ k ≠ B) ∧ k ≠ g) ∧ ls[i].2 k) cs ls[i].1 → NdO w' N (fun k => ((N ≤ k ∧ k ≠ B) ∧ k ≠ g) ∧ (ls[i].2 k ∨ w.heap.size ≤ k)) (cs.set f u) y) :
    NxB w' N B (.slice (some ⟨g, 0, none⟩) n c) ss { t with nodes := t.nodes.set i y } (ls.set i (y, fun k => (ls[i].2 k ∨ w.heap.size ≤ k) ∧ k < w'.heap.size)) S := by
  obtain ⟨hg1, hg2⟩ := h.blk
  have hfar : ∀ k, S k → ¬ G k := fun k hk hgk => by
    obtain ⟨k1, k2, k3, k4⟩ := h.o.far k hk
    rcases hG k hgk with rfl | h1 | h1
    · exact k3 rfl
    · exact k4 _ (List.getElem_mem hi) h1.1
    · have := h.topS k hk
      omega
  refine ⟨⟨h.o.box.turn ht fun hgk => ?_, h.o.low, ?_, ?_, ?_, h.o.ses.turn ht hfar, fun k hk => ?_, h.o.len, h.o.big⟩, fun p hp k hk => ?_, fun k hk => Nat.lt_of_lt_of_le (h.topS k hk) ht.size⟩
  · have := h.o.box.lt
    rcases hG B hgk with h1 | h1 | h1
    · exact hg2 h1.symm
    · exact h1.2.2.1 rfl
    · omega
  · refine OwnX.setc (E := nodeO N) h.o.own hg hi hf (y := (y, fun k => (ls[i].2 k ∨ w.heap.size ≤ k) ∧ k < w'.heap.size)) hk ⟨hg1, hg2⟩ (fun j hj e cs hx => ?_) fun cs hx => ?_
    · refine NdO.turn hx ht fun k hk hgk => ?_
      rcases hG k hgk with h1 | h1 | h1
      · exact hk.1.2 h1
      · exact apart_get h.o.dis hi hj (fun e1 => e e1.symm) k ⟨h1.1, hk.2⟩
      · have := h.top _ (List.getElem_mem hj) k hk.2
        omega
    · exact NdO.mono (hy cs hx) fun k hk hh => ⟨hh.1, hh.2, hk⟩
  · rw [List.map_set, h.o.nds]
  · refine apart_set h.o.dis fun j hj e k hh => ?_
    rcases hh.1.1 with h1 | h1
    · exact apart_get h.o.dis hi hj (fun e1 => e e1.symm) k ⟨h1, hh.2⟩
    · have := h.top _ (List.getElem_mem hj) k hh.2
      omega
  · obtain ⟨k1, k2, k3, k4⟩ := h.o.far k hk
    refine ⟨k1, k2, k3, fun p hp hpk => ?_⟩
    rcases List.mem_or_eq_of_mem_set hp with h1 | rfl
    · exact k4 p h1 hpk
    · rcases hpk.1 with h1 | h1
      · exact k4 _ (List.getElem_mem hi) h1
      · have := h.topS k hk
        omega
  · rcases List.mem_or_eq_of_mem_set hp with h1 | rfl
    · exact Nat.lt_of_lt_of_le (h.top p h1 k hk) ht.size
    · exact hk.2
/-- a stamp -/
def chgN (st : Nat) (n : Nd) : Nd := { n with chg := st }
theorem row_stamp {w : World} {N : Nat} {F : Nat → Prop} {xs : List Value} {ls : List (Nd × Sup)} (h : RowX (nodeO N) w F xs ls) {i : Nat} (hi : i < ls.length) {st : Nat} (hst : st < 18446744073709551616) : RowX (nodeO N) w F (xs.set (i * 6 + 3) (.int .u64 (st : Int))) (ls.set i (chgN st ls[i].1, ls[i].2)) := by
  refine h.upd hi (by rw [List.length_set]) (fun j _ e => grp_far (n := 6) (by decide) e) (fun j hj e cs hx => hx) ?_
  show NdO w N (fun k => F k ∧ ls[i].2 k) (((xs.set (i * 6 + 3) _).drop (i * 6)).take 6) (chgN st ls[i].1)
  rw [grp_self (n := 6)]
  obtain ⟨dv, nv, e, h1, h2, h3, h4, h5⟩ := (show NdO w N (fun k => F k ∧ ls[i].2 k) ((xs.drop (i * 6)).take 6) ls[i].1 from h.2 i hi)
  exact ⟨dv, nv, by rw [e]; rfl, h1, h2, h3, h4, hst⟩
theorem take_stamp {cur : Array Value} {i m : Nat} {v : Value} : (cur.setIfInBounds i v).toList.take m = (cur.toList.take m).set i v := by
  rw [Array.toList_setIfInBounds, List.take_set]
/-- nodes' cells changed in place -/
theorem NxB.chg {w w' : World} {N B g n c : Nat} {ss : List Value} {t t' : Tr} {ls ls' : List (Nd × Sup)} {S : Sup} (h : NxB w N B (.slice (some ⟨g, 0, none⟩) n c) ss t ls S) {cur cur' : Array Value} (hg : Cs w g 34 cur) {G : Nat → Prop}
    (hB : Cs w' B 31 (trC (.slice (some ⟨g, 0, none⟩) n c) t' ss).toArray) (hk : Cs w' g 34 cur') (ht : Turn w w' G) (hG : ∀ k, G k → k = B ∨ k = g ∨ ((∀ p ∈ ls, ¬ p.2 k) ∧ ¬ S k))
    (hrow : ∀ W F, RowX (nodeO N) W F (cur.toList.take (ls.length * 6)) ls → RowX (nodeO N) W F (cur'.toList.take (ls.length * 6)) ls') (hsz : cur'.size = cur.size) (hl : ls'.length = ls.length) (hsup : ls'.map (·.2) = ls.map (·.2)) (hnd : ls'.map (·.1) = t'.nodes) (hse : t'.sess = t.sess) (hbig : t'.lastGen < 4294967296 ∧ t'.boot < 4294967296 ∧ t'.count < 4294967296) :
    NxB w' N B (.slice (some ⟨g, 0, none⟩) n c) ss t' ls' S := by
  obtain ⟨hg1, hg2⟩ := h.blk
  have hmem : ∀ p ∈ ls', ∃ q ∈ ls, q.2 = p.2 := fun p hp => by
    have : p.2 ∈ ls.map (·.2) := by rw [← hsup]; exact List.mem_map.2 ⟨p, hp, rfl⟩
    exact List.mem_map.1 this
  have hfar : ∀ k, S k → ¬ G k := fun k hk hgk => by
    obtain ⟨k1, k2, k3, k4⟩ := h.o.far k hk
    rcases hG k hgk with rfl | rfl | h1
    · exact k2 rfl
    · exact k3 rfl
    · exact h1.2 hk
  refine ⟨⟨hB, h.o.low, ?_, hnd, ?_, by rw [hse]; exact h.o.ses.turn ht hfar, fun k hk => ?_, by rw [hse]; exact h.o.len, hbig⟩, fun p hp k hk => ?_, fun k hk => Nat.lt_of_lt_of_le (h.topS k hk) ht.size⟩
  · obtain ⟨cur1, k1, k2, k3, k4, k5, k6, k7⟩ := h.o.own.cur
    obtain rfl : cur1 = cur := by
      have := k1.symm.trans hg
      injection this with this
      injection this
    have e1 : n = ls'.length := by rw [hl]; exact k3
    subst e1
    refine OwnX.mk' (E := nodeO N) (cur := cur') hk k2 ⟨hg1, hg2⟩ (by omega) k5 (by rw [hsz]; exact k6) ?_
    rw [hl]
    refine hrow w' _ ⟨k7.1, fun j hj => ?_⟩
    refine NdO.turn (k7.2 j hj) ht fun k hk hgk => ?_
    rcases hG k hgk with h1 | h1 | h1
    · exact hk.1.1.2 h1
    · exact hk.1.2 h1
    · exact h1.1 _ (List.getElem_mem hj) hk.2
  · have h1 : (ls.map (·.2)).Pairwise fun a b : Sup => ∀ k, ¬ (a k ∧ b k) := List.pairwise_map.2 h.o.dis
    rw [← hsup] at h1
    exact List.pairwise_map.1 h1
  · obtain ⟨k1, k2, k3, k4⟩ := h.o.far k hk
    refine ⟨k1, k2, k3, fun p hp hpk => ?_⟩
    obtain ⟨q, hq, e⟩ := hmem p hp
    exact k4 q hq (by rw [e]; exact hpk)
  · obtain ⟨q, hq, e⟩ := hmem p hp
    exact Nat.lt_of_lt_of_le (h.top q hq k (by rw [e]; exact hk)) ht.size
/-- what is read of it in the end -/
theorem NxB.last {w w' : World} {N B : Nat} {nv nv' : Value} {ss : List Value} {t t' : Tr} {ls ls' : List (Nd × Sup)} {S : Sup} (h : NxB w N B nv ss t ls S) {F : Nat → Prop} (ho : OwnX (nodeO N) w' N F nv' ls') (hF : ∀ k, F k → N ≤ k) {G : Nat → Prop} (ht : Turn w w' G) (hG : ∀ k, S k → ¬ G k) (hnd : ls'.map (·.1) = t'.nodes) (hse : t'.sess = t.sess) (hbig : t'.lastGen < 4294967296 ∧ t'.boot < 4294967296 ∧ t'.count < 4294967296) : TrAt w' (N ≤ ·) (trC nv' t' ss) t' :=
  ⟨nv', ss, rfl, by rw [← hnd]; exact (ho.ls.mono fun k _ hk => hF k hk).nd, by rw [hse]; exact (h.o.ses.turn ht hG).mono fun k _ hk => (h.o.far k hk).1, by rw [hse]; exact h.o.len.1, h.o.len.2, hbig⟩

/-! ### lists -/
theorem set_updN {l : List Nd} (hs : SortN l) {i : Nat} (hi : i < l.length) (f : Nd → Nd) : l.set i (f l[i]) = updN l l[i].ino f := by
  unfold updN
  refine List.ext_getElem (by simp) fun j h1 h2 => ?_
  rw [List.length_set] at h1
  rw [List.getElem_set, List.getElem_map]
  by_cases e : i = j
  · subst e
    rw [if_pos rfl, if_pos rfl]
  · rw [if_neg e, if_neg (ino_ne hs h1 hi fun k => e k.symm)]
theorem erase_outN {l : List Nd} (hs : SortN l) {i : Nat} (hi : i < l.length) : l.eraseIdx i = outN l l[i].ino := by
  obtain ⟨x, hx⟩ : ∃ x, x = l[i].ino := ⟨_, rfl⟩
  have hne : ∀ j (hj : j < l.length), j ≠ i → l[j].ino ≠ x := fun j hj e => by rw [hx]; exact ino_ne hs hj hi e
  rw [← hx]
  unfold outN
  rw [List.eraseIdx_eq_take_drop_succ]
  conv => rhs; rw [← List.take_append_drop i l]
  rw [List.filter_append, List.drop_eq_getElem_cons hi, List.filter_cons]
  rw [if_neg (by simp [hx])]
  congr 1
  · refine (List.filter_eq_self.2 fun m hm => ?_).symm
    obtain ⟨j, hj, rfl⟩ := List.getElem_of_mem hm
    rw [List.length_take] at hj
    rw [List.getElem_take]
    have := hne j (by omega) (by omega)
    simpa using this
  · refine (List.filter_eq_self.2 fun m hm => ?_).symm
    obtain ⟨j, hj, rfl⟩ := List.getElem_of_mem hm
    rw [List.length_drop] at hj
    rw [List.getElem_drop]
    have := hne (i + 1 + j) (by omega) (by omega)
    simpa using this
theorem ins_insN {l : List Nd} {n : Nd} {i : Nat} (h1 : ∀ j (h : j < l.length), j < i → l[j].ino < n.ino) (h2 : ∀ j (h : j < l.length), i ≤ j → ¬ l[j].ino < n.ino) : l.take i ++ n :: l.drop i = insN l n := by
  obtain ⟨e1, e2⟩ := filter_split (p := fun m : Nd => decide (m.ino < n.ino)) (l := l) (i := i) (fun j h k => by simpa using h1 j h k) (fun j h k => by simpa using h2 j h k)
  unfold insN
  rw [e1, e2]

end Go.Proofs.YtenpmbfncnepgaaDoor

/- The program: Resize. -/
namespace Go.Proofs.YtenpmbfncnepgaaDoor
open Go.RowKit Go.Shelf
set_option linter.unusedVariables false
set_option maxRecDepth 100000
set_option linter.unusedSimpArgs false

theorem TrO.at1 {w : World} {N : Nat} {nv : Value} {ss : List Value} {t : Tr} {ls : List (Nd × Sup)} {S : Sup} (h : TrO w N nv ss t ls S) : TrAt w (N ≤ ·) (trC nv t ss) t :=
  ⟨nv, ss, rfl, by rw [← h.nds]; exact h.own.ls.nd, h.ses.mono fun k _ hk => (h.far k hk).1, h.len.1, h.len.2, h.big⟩
theorem NxB.rd {w : World} {N B : Nat} {A : Option Addr} {n c : Nat} {ss : List Value} {t : Tr} {ls : List (Nd × Sup)} {S : Sup} (h : NxB w N B (.slice A n c) ss t ls S) : RdX nodeE w (N ≤ ·) A t.nodes ∧ ls.length = t.nodes.length := by
  have h1 := (h.o.own.ls.mono (G := (N ≤ ·)) fun k _ hk => hk.1).nd
  rw [h.o.nds] at h1
  obtain ⟨A', c', e, hr, -⟩ := h1
  injection e with e1 e2 e3
  subst e1
  exact ⟨hr, by rw [← h.o.nds, List.length_map]⟩
theorem NxB.is {w : World} {N B : Nat} {nv : Value} {ss : List Value} {t : Tr} {ls : List (Nd × Sup)} {S : Sup} (h : NxB w N B nv ss t ls S) {i : Nat} (hi : i < ls.length) (hi' : i < t.nodes.length) : ls[i].1 = t.nodes[i] := by
  have := congrArg (fun l : List Nd => l[i]?) h.o.nds
  simp only [List.getElem?_map, List.getElem?_eq_getElem hi, List.getElem?_eq_getElem hi', Option.map_some, Option.some.injEq] at this
  exact this
theorem NxB.cells {w : World} {N B g n c : Nat} {ss : List Value} {t : Tr} {ls : List (Nd × Sup)} {S : Sup} (h : NxB w N B (.slice (some ⟨g, 0, none⟩) n c) ss t ls S) : ∃ cur, Cs w g 34 cur ∧ ls.length * 6 ≤ cur.size ∧ ∀ i (hi : i < ls.length), ∃ dv ev, (∀ f, f < 6 → cur[i * 6 + f]? = (ndC ls[i].1 dv ev)[f]?) ∧ BsV w (fun k => ((N ≤ k ∧ k ≠ B) ∧ k ≠ g) ∧ ls[i].2 k) dv ls[i].1.data ∧ OwnX entE w N (fun k => ((N ≤ k ∧ k ≠ B) ∧ k ≠ g) ∧ ls[i].2 k) ev ls[i].1.names := by
  obtain ⟨cur, k1, k2, k3, k4, k5, k6, k7⟩ := h.o.own.cur
  have k6' : cur.size = c * 6 := k6
  refine ⟨cur, k1, by omega, fun i hi => ?_⟩
  obtain ⟨dv, ev, e, h1, h2, -⟩ := (show NdO w N (fun k => ((N ≤ k ∧ k ≠ B) ∧ k ≠ g) ∧ ls[i].2 k) (((cur.toList.take (ls.length * 6)).drop (i * 6)).take 6) ls[i].1 from k7.2 i hi)
  refine ⟨dv, ev, fun f hf => ?_, h1, h2⟩
  rw [← e, List.getElem?_take, if_pos hf, List.getElem?_drop, List.getElem?_take, if_pos (by omega)]
  simp
theorem NxB.stamp {w w' : World} {N B g n c : Nat} {ss : List Value} {t : Tr} {ls : List (Nd × Sup)} {S : Sup} (h : NxB w N B (.slice (some ⟨g, 0, none⟩) n c) ss t ls S) {cur : Array Value} (hg : Cs w g 34 cur) {i : Nat} (hi : i < ls.length) {st : Nat} (hst : st < 18446744073709551616) {G : Nat → Prop}
    (hB : Cs w' B 31 (trC (.slice (some ⟨g, 0, none⟩) n c) { t with count := t.count + 1 } ss).toArray) (hk : Cs w' g 34 (cur.setIfInBounds (i * 6 + 3) (.int .u64 (st : Int)))) (ht : Turn w w' G) (hG : ∀ k, G k → k = B ∨ k = g ∨ ((∀ p ∈ ls, ¬ p.2 k) ∧ ¬ S k)) (hc : t.count + 1 < 4294967296) :
    NxB w' N B (.slice (some ⟨g, 0, none⟩) n c) ss { t with nodes := t.nodes.set i (chgN st ls[i].1), count := t.count + 1 } (ls.set i (chgN st ls[i].1, ls[i].2)) S := by
  refine h.chg hg (t' := { t with nodes := t.nodes.set i (chgN st ls[i].1), count := t.count + 1 }) hB hk ht hG (fun W F hr => ?_) (by rw [Array.size_setIfInBounds]) (by rw [List.length_set]) ?_ (by rw [List.map_set, h.o.nds]) rfl ⟨h.o.big.1, h.o.big.2.1, hc⟩
  · rw [take_stamp]
    exact row_stamp hr hi hst
  · rw [List.map_set]
    refine List.ext_getElem (by simp) fun j h1 h2 => ?_
    rw [List.getElem_set]
    split
    · rename_i e
      subst e
      rw [List.getElem_map]
    · rfl
theorem stamp_one (b st o : Nat) (cur : Array Value) : stampA b st [(b, o)] cur = cur.setIfInBounds (o + 3) (.int .u64 (st : Int)) := by
  simp [stampA, stampS]
theorem wpList_buildP1 {w : World} {ops : Array Oper} {rest : List Oper} {o : Oper} {a : Act} {Q : Exit → Act → World → Prop} (hgd : o.guard = none) (x : Operand) (ho : o.op = .buildSlice 87 1 #[(0, x)]) (p : Option Addr) (hx : a.eval x = .pointer p)
    (hK : ∀ g w', Cs w' g 51 #[.pointer p] → Below w.heap.size w w' → w.heap.size ≤ g → wpList Tryd.prog ops Q rest (a.put o.dst (.slice (some ⟨g, 0, none⟩) 1 1)) w') : wpList Tryd.prog ops Q (o :: rest) a w := by
  refine wpList_plain hgd fun _ hh => wp_of_run2 (v := .slice (some ⟨w.heap.size, 0, none⟩) 1 1) (w' := w.alloc (.cells #[.pointer p] 51)) ?_ (hh _ _ (hK _ _ (Cs.new _ _ _) ((Below.refl _ _).alloc (Nat.le_refl _) _) (Nat.le_refl _)))
  unfold execOp
  simp only [ho, hx, List.map_toArray, List.map_cons, List.map_nil]
  go_simp
theorem nodeP_at {g : Nat} {l : List Nd} {v : Value} {r : Option Nd} {d : Nd} (h : NodeP (some ⟨g, 0, none⟩) l v r) (hr : r = some d) : ∃ (i : Nat) (hi : i < l.length), l[i] = d ∧ v = .pointer (some ⟨g, i * 6, none⟩) := by
  rcases h with ⟨h1, -⟩ | ⟨i, b, off, hi, h1, h2, h3⟩
  · rw [h1] at hr; cases hr
  · injection h2 with h2
    injection h2 with h2 h4
    subst h2 h4
    refine ⟨i, hi, Option.some.inj (h1.symm.trans hr), ?_⟩
    rw [h3, Nat.zero_add]
theorem resize_is {t : Tr} (hm : MayT t) (h : Nat × Nat) (n : Nat) : (resizeT t h n).2 = orS 0 (orS (stOf (findT t.nodes h).isSome 1) (orS (kindS (findT t.nodes h) false) (orS (stOf (decide (n ≤ 4096)) 8) (orS (stOf (decide (t.count < 2147483648)) 7) 0)))) ∧
    ((resizeT t h n).2 ≠ 0 → (resizeT t h n).1 = t) ∧ ((resizeT t h n).2 = 0 → n ≤ 4096 ∧ t.count < 2147483648 ∧ (resizeT t h n).1 = dataT t h.1 (fun l => resB l n) ∧ ∃ d, findT t.nodes h = some d) := by
  unfold resizeT
  rw [if_pos hm]
  cases hd : findT t.nodes h with
  | none => simp [orS, stOf]
  | some d =>
    cases hdir : d.dir
    · by_cases h1 : 4096 < n
      · simp [orS, stOf, kindS, hdir, h1]
      · by_cases h2 : 2147483648 ≤ t.count
        · simp [orS, stOf, kindS, hdir, h1, h2]
        · simp [orS, stOf, kindS, hdir, h1, h2]
          omega
    · simp [orS, stOf, kindS, hdir]
end Go.Proofs.YtenpmbfncnepgaaDoor
