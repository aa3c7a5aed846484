/- Write: a block that waits for the next Flush. -/
import Derived.Test.YtnhbhfnpcbmjkaaDiskStep
namespace Go.Proofs.Ytnhbhfnpcbmjkaa
open Go.RowKit Go.Shelf Go.Maps
set_option linter.unusedVariables false
set_option linter.unusedSimpArgs false

/-- what stands behind the append: the disk's own cells but the queue's, the queue itself -/
theorem write_mid {W w4 : World} {p : DP} {s : DS} {n : Int} {l : Blk} {g cap : Nat} (h : DiskAt W p s) (hg : W.grownBy w4 (Value.slice p.A s.q.length p.cap).ownBlock) :
    Cs w4 p.db 49 (dcells p s) := by
  refine h.cells.turn (Turn.of_grown hg) (fun e => ?_)
  exact ownsRow_ne h.q h.cells (by decide) e
/-- what stands behind the store into the queue's cell -/
theorem write_mid2 {W w4 w5 : World} {p : DP} {s : DS} {g cap : Nat} (h : DiskAt W p s) (hg : W.grownBy w4 (Value.slice p.A s.q.length p.cap).ownBlock)
    (hw5 : w5 = (w4.setCell ⟨p.db, 3, none⟩ (.slice (some ⟨g, 0, none⟩) (s.q.length + 1) cap)).drew) :
    Cs w5 p.db 49 ((dcells p s).setIfInBounds 3 (.slice (some ⟨g, 0, none⟩) (s.q.length + 1) cap)) ∧ MapIs w5 p.lb s.blocks s.laid ∧ MapIs w5 p.yb s.blocks s.young ∧ Turn W w5 (foot p) := by
  have h4 := write_mid (n := 0) (l := []) (g := 0) (cap := 0) h hg
  have t4 := Turn.of_grown hg
  have t5 : Turn w4 w5 (· = p.db) := by rw [hw5]; exact (turn_set w4 p.db 3 _).trans (Turn.drew _ fun _ => False) (fun _ _ e => e.elim)
  have l4 := h.laid.turn t4 (fun e => ownsRow_ne_map h.q h.laid e)
  have y4 := h.young.turn t4 (fun e => ownsRow_ne_map h.q h.young e)
  refine ⟨?_, l4.turn t5 (h.laid.ne_cs h.cells), y4.turn t5 (h.young.ne_cs h.cells), (t4.mono (G := foot p) (fun i _ e => .inr (.inr (.inr (by rw [ownBlock_slice p.A 0 0 s.q.length p.cap]; exact e))))).trans t5 (fun i _ e => .inl e)⟩
  rw [hw5]
  exact (h4.set 3 _).drew
/-- all of it -/
theorem write_end {W w4 w5 w6 : World} {p : DP} {s : DS} {n : Int} {l : Blk} {g cap : Nat} (h : DiskAt W p s) (hn : 0 ≤ n ∧ n < (s.blocks : Int)) (hl : l.length = 64)
    (hown : w4.ownsRow 0 53 65 (.slice (some ⟨g, 0, none⟩) (s.q.length + 1) cap) (s.q.length + 1) (qcells (s.q ++ [(n, l)]))) (hg : W.grownBy w4 (Value.slice p.A s.q.length p.cap).ownBlock)
    (hloc : some g = (Value.slice p.A s.q.length p.cap).ownBlock ∨ g = W.heap.size) (hw5 : w5 = (w4.setCell ⟨p.db, 3, none⟩ (.slice (some ⟨g, 0, none⟩) (s.q.length + 1) cap)).drew)
    (hm : MapIs w6 p.yb s.blocks (upd s.young n l)) (hgm : w5.grownBy w6 (some p.yb)) :
    DiskAt w6 ⟨p.db, p.lb, p.yb, some ⟨g, 0, none⟩, cap⟩ { s with q := s.q ++ [(n, l)], young := upd s.young n l } ∧ Turn W w6 (foot p) ∧ (∀ k, foot ⟨p.db, p.lb, p.yb, some ⟨g, 0, none⟩, cap⟩ k → foot p k ∨ W.heap.size ≤ k) := by
  obtain ⟨c5, l5, y5, t5⟩ := write_mid2 h hg hw5
  have t6 := Turn.of_grown hgm
  have h4 := write_mid (n := 0) (l := []) (g := 0) (cap := 0) h hg
  have o5 : w5.ownsRow 0 53 65 (.slice (some ⟨g, 0, none⟩) (s.q.length + 1) cap) (s.q.length + 1) (qcells (s.q ++ [(n, l)])) := by
    have t45 : Turn w4 w5 (· = p.db) := by rw [hw5]; exact (turn_set w4 p.db 3 _).trans (Turn.drew _ fun _ => False) (fun _ _ e => e.elim)
    exact ownsRow_turn hown t45 (fun k hk e => by subst e; exact ownsRow_ne hown h4 (by decide) hk)
  have hlen : (s.q ++ [(n, l)]).length = s.q.length + 1 := by simp
  refine ⟨⟨?_, ?_, hm, h.ne, ?_, h.lo, h.hi, ?_, h.stp, h.lft⟩, t5.trans t6 (fun i _ e => .inr (.inr (.inl (by injection e with e; exact e.symm)))), ?_⟩
  · have := c5.turn t6 (fun e => by injection e with e; exact h.young.ne_cs h.cells e)
    rw [show dcells ⟨p.db, p.lb, p.yb, some ⟨g, 0, none⟩, cap⟩ { s with q := s.q ++ [(n, l)], young := upd s.young n l } = (dcells p s).setIfInBounds 3 (.slice (some ⟨g, 0, none⟩) (s.q.length + 1) cap) from by simp [dcells]]
    exact this
  · exact l5.turn t6 (fun e => by injection e with e; exact h.ne e.symm)
  · show w6.ownsRow 0 53 65 (.slice (some ⟨g, 0, none⟩) (s.q ++ [(n, l)]).length cap) (s.q ++ [(n, l)]).length (qcells (s.q ++ [(n, l)]))
    rw [hlen]
    exact ownsRow_turn o5 t6 (fun k hk e => by injection e with e; subst e; exact ownsRow_ne_map o5 y5 hk)
  · intro x hx
    rcases List.mem_append.1 hx with hx | hx
    · exact h.wfq x hx
    · rw [List.mem_singleton.1 hx]
      exact ⟨hn.1, hn.2, hl⟩
  · rintro k (hk | hk | hk | hk)
    · exact .inl (.inl hk)
    · exact .inl (.inr (.inl hk))
    · exact .inl (.inr (.inr (.inl hk)))
    · simp only [Value.ownBlock, Option.some.injEq] at hk
      subst hk
      rcases hloc with hloc | hloc
      · exact .inl (.inr (.inr (.inr (by rw [ownBlock_slice p.A 0 0 s.q.length p.cap, ← hloc]))))
      · exact .inr (by omega)

def writeS (s : DS) (n : Int) (l : Blk) : DS := if s.dark = true then s else if inB s n = true then (if s.left = 1 then gone s else wrote s n l) else s
def writeE (s : DS) (n : Int) : Int := if s.dark = true then 9 else if inB s n = true then (if s.left = 1 then 9 else 0) else 2
theorem DPost.below {w W : World} {p : DP} {s' : DS} (hb : Below w.heap.size w W) {v : Value} {e : Ending} {w' : World} (h : DPost W p s' v e w') : DPost w p s' v e w' := by
  obtain ⟨he, p', hd, hdb, ht, hf⟩ := h
  refine ⟨he, p', hd, hdb, (Turn.of_below hb (foot p)).trans ht (fun _ _ h => h), fun k hk => ?_⟩
  rcases hf k hk with h | h
  · exact .inl h
  · exact .inr (Nat.le_trans hb.size h)
theorem DPost.of {W0 W W3 w6 : World} {p p' : DP} {s' s'' : DS} {v : Value} (hF : s' = s'') (hT : Turn W0 W (· = p.db)) (hB : Below W.heap.size W W3) (hE : DiskAt w6 p' s'' ∧ Turn W3 w6 (foot p) ∧ (∀ k, foot p' k → foot p k ∨ W3.heap.size ≤ k)) (hdb : p'.db = p.db := by rfl) :
    DPost W0 p s' v (.returned v) w6 := by
  subst hF
  obtain ⟨h1, h2, h3⟩ := hE
  refine ⟨rfl, p', h1, hdb, ((hT.mono (G := foot p) (fun i _ e => .inl e)).trans (Turn.of_below hB (foot p)) (fun _ _ h => h)).trans h2 (fun _ _ h => h), fun k hk => ?_⟩
  rcases h3 k hk with h | h
  · exact .inl h
  · exact .inr (Nat.le_trans hT.size (Nat.le_trans hB.size h))
set_option maxHeartbeats 4000000 in
/-- the queue grows -/
theorem Write_ok {w : World} {p : DP} {s0 : DS} (h : DiskAt w p s0) (n : Int) (l : Blk) (hl : l.length = 64) (hs : s0.steps + 1 < 4611686018427387904) (hq : s0.q.length < 1099511627776) (hd : s0.dark = false) (hn : inB s0 n = true) (h1 : s0.left ≠ 1) :
    Calls Try.prog 8 #[.pointer (some ⟨p.db, 0, none⟩), .int .i64 n, bv l] w fun e w' => DPost w p (wrote s0 n l) (.int .i64 0) e w' := by
  have H0 := Lib.hid h
  have HL := Lib.hid hl
  have HS := Lib.hid hs
  have HQ0 := Lib.hid hq
  have HD := Lib.hid hd
  have HN0 := Lib.hid (show 0 ≤ n ∧ n < (s0.blocks : Int) from of_decide_eq_true hn)
  have HB1 := Lib.hid hn
  have H1 := Lib.hid h1
  clear h hl hs hq hd hn h1
  go_enter Try.func8, Try.ntmps8
  go_wp2_with (refine wpList_box_blk rfl (.tmp 2) rfl l rfl ?_; intro g5 W0 hk5 hb5 hg5; go_frame; have K50 := Lib.hid hk5; have B5 := Lib.hid hb5; have G5 := Lib.hid hg5; clear hk5 hb5 hg5)
  have HW0 := Lib.hid (H0.out.below B5.out)
  have c1 := refused_disk HW0.out
  rw [HD.out, if_neg (by decide)] at c1
  refine c1.mono ?_
  clear c1
  rintro e _ ⟨rfl, rfl⟩
  go_wp2_with fail
  have c2 := isBlock_disk HW0.out n
  rw [show decide (0 ≤ n ∧ n < (s0.blocks : Int)) = true from HB1.out] at c2
  refine c2.mono ?_
  clear c2
  rintro e _ ⟨rfl, rfl⟩
  go_wp2_with fail
  have c3 := work_disk HW0.out HS.out
  rw [decide_eq_true H1.out, show workS s0 = worked s0 from if_neg H1.out] at c3
  refine c3.mono ?_
  clear c3
  rintro e W ⟨rfl, hW, hT⟩
  have HW := Lib.hid hW
  have HT := Lib.hid hT
  have hq1 := Lib.hid (show (worked s0).q = s0.q from rfl)
  obtain ⟨s, hs⟩ : ∃ s, worked s0 = s := ⟨_, rfl⟩
  rw [hs] at hW
  have HQ := Lib.hid (show s.q.length < 1099511627776 by rw [← hs]; exact HQ0.out)
  have HN := Lib.hid (show 0 ≤ n ∧ n < (s.blocks : Int) by rw [← hs]; exact HN0.out)
  have HF := Lib.hid (show wrote s0 n l = { s with q := s.q ++ [(n, l)], young := upd s.young n l } by rw [← hs]; rfl)
  have HWs := Lib.hid hW
  clear HW hq1 hs hT
  have K5 := Lib.hid (K50.out.turn HT.out (fun e => by have := H0.out.cells.lt; have := G5.out; omega))
  have hdb : p.db < W.heap.size := hW.cells.lt
  have c3 := hW.at.2.2.2.1
  have B3 := Lib.hid ((Below.refl W.heap.size W).drew.alloc (Nat.le_refl _) (.cells (wcells (n, l)).toArray 53))
  have H3 := Lib.hid (hW.below B3.out)
  have K8 := Lib.hid (Cs.new W.drew 53 (wcells (n, l)).toArray)
  clear hW
  have N5 := Lib.hid (show ¬ foot p g5 from fun hf => by have := foot_lt H0.out g5 hf; have := G5.out; omega)
  have hmix : Try.prog.follows .mixedOrders = true := by kernel_rfl
  go_wp2_with fail
  refine wp_region_any (by kernel_rfl) ?_
  change wpAny _ _ _ _ _ _ _ (World.drew _)
  refine wpAny_take (i := 0) (v := .pointer (some ⟨p.db, 0, none⟩)) rfl (by kernel_rfl) (by kernel_rfl) (by kernel_rfl) (fun _ _ _ h => h) (Or.inl ⟨by rfl, by intro w; go_simp⟩) ?_
  try simp only [List.getElem_toArray, List.getElem_cons_succ, List.getElem_cons_zero, Act.put, List.setIfInBounds_toArray, List.set_cons_succ, List.set_cons_zero]
  refine wpAny_take (i := 1) (v := .pointer (some ⟨p.db, 0, none⟩)) rfl (by kernel_rfl) (by kernel_rfl) (by kernel_rfl) (fun _ _ _ h => h) (Or.inl ⟨by rfl, by intro w; go_simp⟩) ?_
  try simp only [List.getElem_toArray, List.getElem_cons_succ, List.getElem_cons_zero, Act.put, List.setIfInBounds_toArray, List.set_cons_succ, List.set_cons_zero]
  refine wpAny_take (i := 5) (v := .int .i64 n) rfl (by kernel_rfl) (by kernel_rfl) (by kernel_rfl) (fun _ _ _ h => h) (Or.inl ⟨by rfl, by intro w; go_simp⟩) ?_
  try simp only [List.getElem_toArray, List.getElem_cons_succ, List.getElem_cons_zero, Act.put, List.setIfInBounds_toArray, List.set_cons_succ, List.set_cons_zero]
  refine wpAny_take (i := 2) (v := .pointer (some ⟨p.db, 0, none⟩)) rfl (by kernel_rfl) (by kernel_rfl) (by kernel_rfl) (fun _ _ _ h => h) (Or.inl ⟨by rfl, by intro w; go_simp⟩) ?_
  try simp only [List.getElem_toArray, List.getElem_cons_succ, List.getElem_cons_zero, Act.put, List.setIfInBounds_toArray, List.set_cons_succ, List.set_cons_zero]
  refine wpAny_take (i := 3) (v := .pointer (some ⟨p.db, 3, none⟩)) rfl (by kernel_rfl) (by kernel_rfl) (by kernel_rfl) (fun _ _ _ h => h) (Or.inl ⟨by rfl, by intro w; go_simp⟩) ?_
  try simp only [List.getElem_toArray, List.getElem_cons_succ, List.getElem_cons_zero, Act.put, List.setIfInBounds_toArray, List.set_cons_succ, List.set_cons_zero]
  refine wpAny_ready (rs := [4, 6]) (by kernel_rfl) (by simp) ?_
  refine AllReady.cons rfl (fun K hK => ?_) (AllReady.cons rfl (fun K hK => ?_) AllReady.nil)
  · go_simp
    refine hK _ _ ?_
    clear hK K
    refine wpAny_ready (rs := [6]) (by kernel_rfl) (by simp) ?_
    refine AllReady.cons rfl (fun K hK => ?_) AllReady.nil
    dsimp only [List.getElem_toArray, List.getElem_cons_succ, List.getElem_cons_zero]
    refine step_if rfl ?_
    refine wp_of_run (exec_load_blk (.tmp 5) rfl g5 0 rfl l HL.out (At.whole K5.out.drew)) ?_
    refine hK _ _ ?_
    clear hK K
    try simp only [List.getElem_toArray, List.getElem_cons_succ, List.getElem_cons_zero, Act.put, List.setIfInBounds_toArray, List.set_cons_succ, List.set_cons_zero]
    refine wpAny_ready (rs := [7]) (by kernel_rfl) (by simp) ?_
    refine AllReady.cons rfl (fun K hK => ?_) AllReady.nil
    dsimp only [List.getElem_toArray, List.getElem_cons_succ, List.getElem_cons_zero]
    refine step_if rfl ?_
    refine wp_of_run (exec_build_write (.tmp 25) (.tmp 26) rfl n rfl l HL.out rfl) ?_
    refine hK _ _ ?_
    clear hK K
    try simp only [List.getElem_toArray, List.getElem_cons_succ, List.getElem_cons_zero, Act.put, List.setIfInBounds_toArray, List.set_cons_succ, List.set_cons_zero]
    refine wpAny_ready (rs := [8]) (by kernel_rfl) (by simp) ?_
    refine AllReady.cons rfl (fun K hK => ?_) AllReady.nil
    dsimp only [List.getElem_toArray, List.getElem_cons_succ, List.getElem_cons_zero]
    refine step_if rfl ?_
    refine wp_buildSlice_write (.tmp 27) rfl (n, l) HL.out rfl ?_
    refine hK _ _ ?_
    clear hK K
    try simp only [List.getElem_toArray, List.getElem_cons_succ, List.getElem_cons_zero, Act.put, List.setIfInBounds_toArray, List.set_cons_succ, List.set_cons_zero]
    refine wpAny_ready (rs := [9]) (by kernel_rfl) (by simp) ?_
    refine AllReady.cons rfl (fun K hK => ?_) AllReady.nil
    dsimp only [List.getElem_toArray, List.getElem_cons_succ, List.getElem_cons_zero]
    refine step_if rfl ?_
    refine wp_append_write (.tmp 24) (.tmp 28) rfl p.A p.cap s.q rfl H3.out.q (n, l) HL.out W.heap.size rfl K8.out HQ.out ?_
    intro g' cap' w4 hown hgrow hloc
    have c4 := write_mid (n := 0) (l := []) (g := 0) (cap := 0) H3.out hgrow
    have e3 := c4.cell 3 rfl
    have f3 := c4.frozen 3
    have OWN := Lib.hid hown
    have GR := Lib.hid hgrow
    have LOC := Lib.hid hloc
    clear hown hgrow hloc c4
    refine hK _ _ ?_
    clear hK K
    try simp only [List.getElem_toArray, List.getElem_cons_succ, List.getElem_cons_zero, Act.put, List.setIfInBounds_toArray, List.set_cons_succ, List.set_cons_zero]
    refine wpAny_ready (rs := [10]) (by kernel_rfl) (by simp) ?_
    refine AllReady.cons rfl (fun K hK => ?_) AllReady.nil
    go_simp
    refine hK _ _ ?_
    clear hK K
    refine wpAny_ready (rs := [11]) (by kernel_rfl) (by simp) ?_
    refine AllReady.cons rfl (fun K hK => ?_) AllReady.nil
    go_simp
    refine hK _ _ ?_
    clear hK K
    refine wpAny_ready (rs := [12]) (by kernel_rfl) (by simp) ?_
    refine AllReady.cons rfl (fun K hK => ?_) AllReady.nil
    go_simp
    refine hK _ _ ?_
    clear hK K
    refine wpAny_done (by kernel_rfl) ?_ _
    go_wp2_with fail
    refine region_tail 6 hmix (by kernel_rfl) ?_
    intro w5 hw5
    simp only [List.take_succ_cons, List.take_zero, List.drop_succ_cons, List.drop_zero]
    have M2 := Lib.hid (write_mid2 H3.out GR.out hw5)
    have HW5 := Lib.hid hw5
    clear hw5
    have c52 : w5.cell? ⟨p.db, 2, none⟩ = some (.map (some p.yb)) := M2.out.1.cell 2 rfl
    have K55 := Lib.hid ((K5.out.below B3.out K5.out.lt).turn M2.out.2.2.2 (fun e => N5.out e))
    still_step
    still_step
    still_step
    still_step
    still_step
    refine wpStill_of_run rfl (exec_load_blk (.tmp 5) rfl g5 0 rfl l HL.out (At.whole K55.out)) ?_
    go_frame
    refine wpStill_nil ?_
    refine wpList_upd rfl (.tmp 35) (.tmp 36) (.tmp 37) rfl rfl n rfl l rfl HL.out M2.out.2.2.1 HN.out.1 HN.out.2 H3.out.hi ?_
    intro w6 hm6 hg6
    have E := Lib.hid (write_end H3.out HN.out HL.out OWN.out GR.out LOC.out HW5.out hm6 hg6)
    clear hm6 hg6
    go_frame
    go_wp2
    go_ret
    refine DPost.below B5.out (DPost.of HF.out HT.out B3.out E.out)
  · dsimp only [List.getElem_toArray, List.getElem_cons_succ, List.getElem_cons_zero]
    refine step_if rfl ?_
    refine wp_of_run (exec_load_blk (.tmp 5) rfl g5 0 rfl l HL.out (At.whole K5.out.drew)) ?_
    refine hK _ _ ?_
    clear hK K
    try simp only [List.getElem_toArray, List.getElem_cons_succ, List.getElem_cons_zero, Act.put, List.setIfInBounds_toArray, List.set_cons_succ, List.set_cons_zero]
    refine wpAny_ready (rs := [4, 7]) (by kernel_rfl) (by simp) ?_
    refine AllReady.cons rfl (fun K hK => ?_) (AllReady.cons rfl (fun K hK => ?_) AllReady.nil)
    · go_simp
      refine hK _ _ ?_
      clear hK K
      refine wpAny_ready (rs := [7]) (by kernel_rfl) (by simp) ?_
      refine AllReady.cons rfl (fun K hK => ?_) AllReady.nil
      dsimp only [List.getElem_toArray, List.getElem_cons_succ, List.getElem_cons_zero]
      refine step_if rfl ?_
      refine wp_of_run (exec_build_write (.tmp 25) (.tmp 26) rfl n rfl l HL.out rfl) ?_
      refine hK _ _ ?_
      clear hK K
      try simp only [List.getElem_toArray, List.getElem_cons_succ, List.getElem_cons_zero, Act.put, List.setIfInBounds_toArray, List.set_cons_succ, List.set_cons_zero]
      refine wpAny_ready (rs := [8]) (by kernel_rfl) (by simp) ?_
      refine AllReady.cons rfl (fun K hK => ?_) AllReady.nil
      dsimp only [List.getElem_toArray, List.getElem_cons_succ, List.getElem_cons_zero]
      refine step_if rfl ?_
      refine wp_buildSlice_write (.tmp 27) rfl (n, l) HL.out rfl ?_
      refine hK _ _ ?_
      clear hK K
      try simp only [List.getElem_toArray, List.getElem_cons_succ, List.getElem_cons_zero, Act.put, List.setIfInBounds_toArray, List.set_cons_succ, List.set_cons_zero]
      refine wpAny_ready (rs := [9]) (by kernel_rfl) (by simp) ?_
      refine AllReady.cons rfl (fun K hK => ?_) AllReady.nil
      dsimp only [List.getElem_toArray, List.getElem_cons_succ, List.getElem_cons_zero]
      refine step_if rfl ?_
      refine wp_append_write (.tmp 24) (.tmp 28) rfl p.A p.cap s.q rfl H3.out.q (n, l) HL.out W.heap.size rfl K8.out HQ.out ?_
      intro g' cap' w4 hown hgrow hloc
      have c4 := write_mid (n := 0) (l := []) (g := 0) (cap := 0) H3.out hgrow
      have e3 := c4.cell 3 rfl
      have f3 := c4.frozen 3
      have OWN := Lib.hid hown
      have GR := Lib.hid hgrow
      have LOC := Lib.hid hloc
      clear hown hgrow hloc c4
      refine hK _ _ ?_
      clear hK K
      try simp only [List.getElem_toArray, List.getElem_cons_succ, List.getElem_cons_zero, Act.put, List.setIfInBounds_toArray, List.set_cons_succ, List.set_cons_zero]
      refine wpAny_ready (rs := [10]) (by kernel_rfl) (by simp) ?_
      refine AllReady.cons rfl (fun K hK => ?_) AllReady.nil
      go_simp
      refine hK _ _ ?_
      clear hK K
      refine wpAny_ready (rs := [11]) (by kernel_rfl) (by simp) ?_
      refine AllReady.cons rfl (fun K hK => ?_) AllReady.nil
      go_simp
      refine hK _ _ ?_
      clear hK K
      refine wpAny_ready (rs := [12]) (by kernel_rfl) (by simp) ?_
      refine AllReady.cons rfl (fun K hK => ?_) AllReady.nil
      go_simp
      refine hK _ _ ?_
      clear hK K
      refine wpAny_done (by kernel_rfl) ?_ _
      go_wp2_with fail
      refine region_tail 6 hmix (by kernel_rfl) ?_
      intro w5 hw5
      simp only [List.take_succ_cons, List.take_zero, List.drop_succ_cons, List.drop_zero]
      have M2 := Lib.hid (write_mid2 H3.out GR.out hw5)
      have HW5 := Lib.hid hw5
      clear hw5
      have c52 : w5.cell? ⟨p.db, 2, none⟩ = some (.map (some p.yb)) := M2.out.1.cell 2 rfl
      have K55 := Lib.hid ((K5.out.below B3.out K5.out.lt).turn M2.out.2.2.2 (fun e => N5.out e))
      still_step
      still_step
      still_step
      still_step
      still_step
      refine wpStill_of_run rfl (exec_load_blk (.tmp 5) rfl g5 0 rfl l HL.out (At.whole K55.out)) ?_
      go_frame
      refine wpStill_nil ?_
      refine wpList_upd rfl (.tmp 35) (.tmp 36) (.tmp 37) rfl rfl n rfl l rfl HL.out M2.out.2.2.1 HN.out.1 HN.out.2 H3.out.hi ?_
      intro w6 hm6 hg6
      have E := Lib.hid (write_end H3.out HN.out HL.out OWN.out GR.out LOC.out HW5.out hm6 hg6)
      clear hm6 hg6
      go_frame
      go_wp2
      go_ret
      refine DPost.below B5.out (DPost.of HF.out HT.out B3.out E.out)
    · dsimp only [List.getElem_toArray, List.getElem_cons_succ, List.getElem_cons_zero]
      refine step_if rfl ?_
      refine wp_of_run (exec_build_write (.tmp 25) (.tmp 26) rfl n rfl l HL.out rfl) ?_
      refine hK _ _ ?_
      clear hK K
      try simp only [List.getElem_toArray, List.getElem_cons_succ, List.getElem_cons_zero, Act.put, List.setIfInBounds_toArray, List.set_cons_succ, List.set_cons_zero]
      refine wpAny_ready (rs := [4, 8]) (by kernel_rfl) (by simp) ?_
      refine AllReady.cons rfl (fun K hK => ?_) (AllReady.cons rfl (fun K hK => ?_) AllReady.nil)
      · go_simp
        refine hK _ _ ?_
        clear hK K
        refine wpAny_ready (rs := [8]) (by kernel_rfl) (by simp) ?_
        refine AllReady.cons rfl (fun K hK => ?_) AllReady.nil
        dsimp only [List.getElem_toArray, List.getElem_cons_succ, List.getElem_cons_zero]
        refine step_if rfl ?_
        refine wp_buildSlice_write (.tmp 27) rfl (n, l) HL.out rfl ?_
        refine hK _ _ ?_
        clear hK K
        try simp only [List.getElem_toArray, List.getElem_cons_succ, List.getElem_cons_zero, Act.put, List.setIfInBounds_toArray, List.set_cons_succ, List.set_cons_zero]
        refine wpAny_ready (rs := [9]) (by kernel_rfl) (by simp) ?_
        refine AllReady.cons rfl (fun K hK => ?_) AllReady.nil
        dsimp only [List.getElem_toArray, List.getElem_cons_succ, List.getElem_cons_zero]
        refine step_if rfl ?_
        refine wp_append_write (.tmp 24) (.tmp 28) rfl p.A p.cap s.q rfl H3.out.q (n, l) HL.out W.heap.size rfl K8.out HQ.out ?_
        intro g' cap' w4 hown hgrow hloc
        have c4 := write_mid (n := 0) (l := []) (g := 0) (cap := 0) H3.out hgrow
        have e3 := c4.cell 3 rfl
        have f3 := c4.frozen 3
        have OWN := Lib.hid hown
        have GR := Lib.hid hgrow
        have LOC := Lib.hid hloc
        clear hown hgrow hloc c4
        refine hK _ _ ?_
        clear hK K
        try simp only [List.getElem_toArray, List.getElem_cons_succ, List.getElem_cons_zero, Act.put, List.setIfInBounds_toArray, List.set_cons_succ, List.set_cons_zero]
        refine wpAny_ready (rs := [10]) (by kernel_rfl) (by simp) ?_
        refine AllReady.cons rfl (fun K hK => ?_) AllReady.nil
        go_simp
        refine hK _ _ ?_
        clear hK K
        refine wpAny_ready (rs := [11]) (by kernel_rfl) (by simp) ?_
        refine AllReady.cons rfl (fun K hK => ?_) AllReady.nil
        go_simp
        refine hK _ _ ?_
        clear hK K
        refine wpAny_ready (rs := [12]) (by kernel_rfl) (by simp) ?_
        refine AllReady.cons rfl (fun K hK => ?_) AllReady.nil
        go_simp
        refine hK _ _ ?_
        clear hK K
        refine wpAny_done (by kernel_rfl) ?_ _
        go_wp2_with fail
        refine region_tail 6 hmix (by kernel_rfl) ?_
        intro w5 hw5
        simp only [List.take_succ_cons, List.take_zero, List.drop_succ_cons, List.drop_zero]
        have M2 := Lib.hid (write_mid2 H3.out GR.out hw5)
        have HW5 := Lib.hid hw5
        clear hw5
        have c52 : w5.cell? ⟨p.db, 2, none⟩ = some (.map (some p.yb)) := M2.out.1.cell 2 rfl
        have K55 := Lib.hid ((K5.out.below B3.out K5.out.lt).turn M2.out.2.2.2 (fun e => N5.out e))
        still_step
        still_step
        still_step
        still_step
        still_step
        refine wpStill_of_run rfl (exec_load_blk (.tmp 5) rfl g5 0 rfl l HL.out (At.whole K55.out)) ?_
        go_frame
        refine wpStill_nil ?_
        refine wpList_upd rfl (.tmp 35) (.tmp 36) (.tmp 37) rfl rfl n rfl l rfl HL.out M2.out.2.2.1 HN.out.1 HN.out.2 H3.out.hi ?_
        intro w6 hm6 hg6
        have E := Lib.hid (write_end H3.out HN.out HL.out OWN.out GR.out LOC.out HW5.out hm6 hg6)
        clear hm6 hg6
        go_frame
        go_wp2
        go_ret
        refine DPost.below B5.out (DPost.of HF.out HT.out B3.out E.out)
      · dsimp only [List.getElem_toArray, List.getElem_cons_succ, List.getElem_cons_zero]
        refine step_if rfl ?_
        refine wp_buildSlice_write (.tmp 27) rfl (n, l) HL.out rfl ?_
        refine hK _ _ ?_
        clear hK K
        try simp only [List.getElem_toArray, List.getElem_cons_succ, List.getElem_cons_zero, Act.put, List.setIfInBounds_toArray, List.set_cons_succ, List.set_cons_zero]
        refine wpAny_ready (rs := [4]) (by kernel_rfl) (by simp) ?_
        refine AllReady.cons rfl (fun K hK => ?_) AllReady.nil
        go_simp
        refine hK _ _ ?_
        clear hK K
        refine wpAny_ready (rs := [9]) (by kernel_rfl) (by simp) ?_
        refine AllReady.cons rfl (fun K hK => ?_) AllReady.nil
        dsimp only [List.getElem_toArray, List.getElem_cons_succ, List.getElem_cons_zero]
        refine step_if rfl ?_
        refine wp_append_write (.tmp 24) (.tmp 28) rfl p.A p.cap s.q rfl H3.out.q (n, l) HL.out W.heap.size rfl K8.out HQ.out ?_
        intro g' cap' w4 hown hgrow hloc
        have c4 := write_mid (n := 0) (l := []) (g := 0) (cap := 0) H3.out hgrow
        have e3 := c4.cell 3 rfl
        have f3 := c4.frozen 3
        have OWN := Lib.hid hown
        have GR := Lib.hid hgrow
        have LOC := Lib.hid hloc
        clear hown hgrow hloc c4
        refine hK _ _ ?_
        clear hK K
        try simp only [List.getElem_toArray, List.getElem_cons_succ, List.getElem_cons_zero, Act.put, List.setIfInBounds_toArray, List.set_cons_succ, List.set_cons_zero]
        refine wpAny_ready (rs := [10]) (by kernel_rfl) (by simp) ?_
        refine AllReady.cons rfl (fun K hK => ?_) AllReady.nil
        go_simp
        refine hK _ _ ?_
        clear hK K
        refine wpAny_ready (rs := [11]) (by kernel_rfl) (by simp) ?_
        refine AllReady.cons rfl (fun K hK => ?_) AllReady.nil
        go_simp
        refine hK _ _ ?_
        clear hK K
        refine wpAny_ready (rs := [12]) (by kernel_rfl) (by simp) ?_
        refine AllReady.cons rfl (fun K hK => ?_) AllReady.nil
        go_simp
        refine hK _ _ ?_
        clear hK K
        refine wpAny_done (by kernel_rfl) ?_ _
        go_wp2_with fail
        refine region_tail 6 hmix (by kernel_rfl) ?_
        intro w5 hw5
        simp only [List.take_succ_cons, List.take_zero, List.drop_succ_cons, List.drop_zero]
        have M2 := Lib.hid (write_mid2 H3.out GR.out hw5)
        have HW5 := Lib.hid hw5
        clear hw5
        have c52 : w5.cell? ⟨p.db, 2, none⟩ = some (.map (some p.yb)) := M2.out.1.cell 2 rfl
        have K55 := Lib.hid ((K5.out.below B3.out K5.out.lt).turn M2.out.2.2.2 (fun e => N5.out e))
        still_step
        still_step
        still_step
        still_step
        still_step
        refine wpStill_of_run rfl (exec_load_blk (.tmp 5) rfl g5 0 rfl l HL.out (At.whole K55.out)) ?_
        go_frame
        refine wpStill_nil ?_
        refine wpList_upd rfl (.tmp 35) (.tmp 36) (.tmp 37) rfl rfl n rfl l rfl HL.out M2.out.2.2.1 HN.out.1 HN.out.2 H3.out.hi ?_
        intro w6 hm6 hg6
        have E := Lib.hid (write_end H3.out HN.out HL.out OWN.out GR.out LOC.out HW5.out hm6 hg6)
        clear hm6 hg6
        go_frame
        go_wp2
        go_ret
        refine DPost.below B5.out (DPost.of HF.out HT.out B3.out E.out)

end Go.Proofs.Ytnhbhfnpcbmjkaa
