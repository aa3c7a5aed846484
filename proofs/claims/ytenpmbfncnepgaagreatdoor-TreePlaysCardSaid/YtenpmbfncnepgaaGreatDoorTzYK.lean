/- TzYK: TzY TzX TzSa. -/
import Derived.Test.YtenpmbfncnepgaaGreatDoorTzPK
/- The program: what Same asks of bytes, sessions, entries, nodes: of two readings of one thing it is true. -/
namespace Go.Proofs.YtenpmbfncnepgaaGreatDoor
open Go.RowKit Go.Shelf
set_option linter.unusedVariables false
set_option maxRecDepth 100000
set_option linter.unusedSimpArgs false

theorem EqualT (p : List UInt8) (A B : Option Addr) (c d : Nat) (w : World) (hp : Rd w A p) (hq : Rd w B p) :
    Calls Tryz.prog 54 #[.slice A p.length c, .slice B p.length d] w fun e w' => e = .returned (.bool true) ∧ Below w.heap.size w w' := by
  have h1 := conv_rd hp c
  have h2 := conv_rd hq d
  clear hp hq
  go_enter Tryz.func54, Tryz.ntmps54
  go_wp2_with fail
  go_ret
  exact ⟨by first | rfl | simp, Below.refl _ _⟩
set_option maxHeartbeats 4000000 in
theorem isSameSession_v (x : Nat × Nat × List UInt8) (a b : Value) (F G : Nat → Prop) (w : World) (ha : BsV w F a x.2.2) (hb : BsV w G b x.2.2) :
    Calls Tryz.prog 21 #[.agg (sesC x a).toArray, .agg (sesC x b).toArray] w fun e w' => e = .returned (.bool true) ∧ Below w.heap.size w w' := by
  obtain ⟨A, c, rfl, hra, -⟩ := ha
  obtain ⟨B, d, rfl, hrb, -⟩ := hb
  have HA := Lib.hid hra.rd
  have HB := Lib.hid hrb.rd
  clear hra hrb
  go_enter Tryz.func21, Tryz.ntmps21
  go_wp2_with (first
    | ((with_reducible show wpList _ _ _ _ _ w); refine wpList_boxS rfl 28 _ rfl (sesC x (.slice A x.2.2.length c)) rfl ?_; intro g1 w1 hk1 hb1 hg1; go_frame; have C1 := Lib.hid hk1; have B1 := Lib.hid hb1; clear hk1 hb1 hg1)
    | ((with_reducible show wpList _ _ _ _ _ w1); refine wpList_boxS rfl 28 _ rfl (sesC x (.slice B x.2.2.length d)) rfl ?_; intro g2 w2 hk1 hb1 hg1; go_frame; have B2 := Lib.hid (below_chain B1.out hb1); have C12 := Lib.hid (C1.out.below hb1 C1.out.lt); have q10 : w2.cell? ⟨g1, 0, none⟩ = some (.int .u32 (x.1 : Int)) := (C1.out.below hb1 C1.out.lt).cell 0 rfl; have q11 : w2.cell? ⟨g1, 1, none⟩ = some (.int .u64 (x.2.1 : Int)) := (C1.out.below hb1 C1.out.lt).cell 1 rfl; have q12 : w2.cell? ⟨g1, 2, none⟩ = some (.slice A x.2.2.length c) := (C1.out.below hb1 C1.out.lt).cell 2 rfl; have q20 : w2.cell? ⟨g2, 0, none⟩ = some (.int .u32 (x.1 : Int)) := hk1.cell 0 rfl; have q21 : w2.cell? ⟨g2, 1, none⟩ = some (.int .u64 (x.2.1 : Int)) := hk1.cell 1 rfl; have q22 : w2.cell? ⟨g2, 2, none⟩ = some (.slice B x.2.2.length d) := hk1.cell 2 rfl; clear hk1 hb1 hg1)
    | fail)
  refine (EqualT x.2.2 A B c d w2 (HA.out.below B2.out) (HB.out.below B2.out)).mono ?_
  rintro e w3 ⟨rfl, hb⟩
  have B3 := Lib.hid (below_chain B2.out hb)
  clear hb
  go_wp2_with fail
  go_ret
  exact ⟨by first | rfl | simp, B3.out⟩
/-- what is told of a node -/
def attC (n : Nd) : List Value := [.int .u32 (n.ino : Int), .int .u32 (n.gen : Int), .bool n.dir, .int .u32 ((if n.dir then n.names.length else n.data.length : Nat) : Int), .int .u64 (n.chg : Int)]
def attZ : List Value := [.int .u32 0, .int .u32 0, .bool false, .int .u32 0, .int .u64 0]
theorem attZero (w : World) : (zeroValue 100).run Tryz.prog w = .ok (.agg attZ.toArray) w := by kernel_rfl
theorem infoAttr : (Tryz.prog.info? 100).map (·.size) = some 5 := by kernel_rfl
set_option maxHeartbeats 4000000 in
theorem Attr_v (n : Nd) (cs : List Value) (F : Nat → Prop) (w : World) (h : NdAt w F cs n) (hn : n.names.length ≤ 1000000) (hd : n.data.length ≤ 1000000) :
    Calls Tryz.prog 55 #[.agg cs.toArray] w fun e w' => e = .returned (.agg (attC n).toArray) ∧ Below w.heap.size w w' := by
  obtain ⟨dv, nv, rfl, ⟨A, c, rfl, -⟩, ⟨B, d, rfl, -⟩, -⟩ := h
  obtain ⟨cl, hcl⟩ : ∃ cl, cl = ndC n (.slice A n.data.length c) (.slice B n.names.length d) := ⟨_, rfl⟩
  rw [← hcl]
  have HCL := Lib.hid hcl
  have j1 : IntKind.u32.wrap (n.data.length : Int) = n.data.length := IntWalk.u32_in _ (by omega)
  have j2 : IntKind.u32.wrap (n.names.length : Int) = n.names.length := IntWalk.u32_in _ (by omega)
  clear hcl
  cases hdir : n.dir
  · have HD := Lib.hid hdir
    clear hdir
    go_enter Tryz.func55, Tryz.ntmps55
    go_wp2_with (first
      | ((with_reducible show wpList _ _ _ _ _ w); refine wpList_boxS rfl 43 _ rfl cl rfl ?_; intro g1 w1 hk1 hb1 hg1; go_frame; have C1 := Lib.hid hk1; have B1 := Lib.hid hb1; clear hk1 hb1 hg1)
      | ((with_reducible show wpList _ _ _ _ _ w1); refine wpList_allocS rfl 100 rfl attZ attZero ?_; intro g2 w2 hk1 hb1 hg1; go_frame; have C2 := Lib.hid hk1; have B2 := Lib.hid (below_chain B1.out hb1); have G2 := Lib.hid (Nat.le_trans B1.out.size hg1); have q0 : w2.cell? ⟨g1, 0, none⟩ = some (.int .u32 (n.ino : Int)) := (C1.out.below hb1 C1.out.lt).cell 0 (by rw [HCL.out]; rfl); have q1 : w2.cell? ⟨g1, 1, none⟩ = some (.int .u32 (n.gen : Int)) := (C1.out.below hb1 C1.out.lt).cell 1 (by rw [HCL.out]; rfl); have q2 : w2.cell? ⟨g1, 2, none⟩ = some (.bool false) := (C1.out.below hb1 C1.out.lt).cell 2 (by rw [HCL.out, ← HD.out]; rfl); have q3 : w2.cell? ⟨g1, 3, none⟩ = some (.int .u64 (n.chg : Int)) := (C1.out.below hb1 C1.out.lt).cell 3 (by rw [HCL.out]; rfl); have q4 : w2.cell? ⟨g1, 4, none⟩ = some (.slice A n.data.length c) := (C1.out.below hb1 C1.out.lt).cell 4 (by rw [HCL.out]; rfl); have q5 : w2.cell? ⟨g1, 5, none⟩ = some (.slice B n.names.length d) := (C1.out.below hb1 C1.out.lt).cell 5 (by rw [HCL.out]; rfl); clear hk1 hb1 hg1)
      | ((with_reducible show wpList _ _ _ _ _ w2); refine wpList_storeS rfl 100 _ _ rfl g2 rfl ([.int .u32 (n.ino : Int), .int .u32 (n.gen : Int), .bool false, .int .u32 (n.data.length : Int), .int .u64 (n.chg : Int)]) attZ rfl C2.out rfl (by intro q hq; simp at hq; rcases hq with rfl | rfl | rfl | rfl | rfl <;> rfl) infoAttr ?_; intro w3 hk2 ht2; go_frame; have C3 := Lib.hid hk2; have T3 := Lib.hid ht2; clear hk2 ht2)
      | fail)
    refine bodyPost_ret (results_agg (P := Tryz.prog) (p := 2) (ty := 100) rfl _ _ g2 0 [.int .u32 (n.ino : Int), .int .u32 (n.gen : Int), .bool false, .int .u32 (n.data.length : Int), .int .u64 (n.chg : Int)] rfl (At.whole C3.out) _ Tryz.underlying100 rfl infoAttr) rfl ?_
    exact ⟨by unfold attC; rw [HD.out]; rfl, B2.out.trans (T3.out.below B2.out.size fun q e => e ▸ G2.out)⟩
  · have HD := Lib.hid hdir
    clear hdir
    go_enter Tryz.func55, Tryz.ntmps55
    go_wp2_with (first
      | ((with_reducible show wpList _ _ _ _ _ w); refine wpList_boxS rfl 43 _ rfl cl rfl ?_; intro g1 w1 hk1 hb1 hg1; go_frame; have C1 := Lib.hid hk1; have B1 := Lib.hid hb1; clear hk1 hb1 hg1)
      | ((with_reducible show wpList _ _ _ _ _ w1); refine wpList_allocS rfl 100 rfl attZ attZero ?_; intro g2 w2 hk1 hb1 hg1; go_frame; have C2 := Lib.hid hk1; have B2 := Lib.hid (below_chain B1.out hb1); have G2 := Lib.hid (Nat.le_trans B1.out.size hg1); have q0 : w2.cell? ⟨g1, 0, none⟩ = some (.int .u32 (n.ino : Int)) := (C1.out.below hb1 C1.out.lt).cell 0 (by rw [HCL.out]; rfl); have q1 : w2.cell? ⟨g1, 1, none⟩ = some (.int .u32 (n.gen : Int)) := (C1.out.below hb1 C1.out.lt).cell 1 (by rw [HCL.out]; rfl); have q2 : w2.cell? ⟨g1, 2, none⟩ = some (.bool true) := (C1.out.below hb1 C1.out.lt).cell 2 (by rw [HCL.out, ← HD.out]; rfl); have q3 : w2.cell? ⟨g1, 3, none⟩ = some (.int .u64 (n.chg : Int)) := (C1.out.below hb1 C1.out.lt).cell 3 (by rw [HCL.out]; rfl); have q4 : w2.cell? ⟨g1, 4, none⟩ = some (.slice A n.data.length c) := (C1.out.below hb1 C1.out.lt).cell 4 (by rw [HCL.out]; rfl); have q5 : w2.cell? ⟨g1, 5, none⟩ = some (.slice B n.names.length d) := (C1.out.below hb1 C1.out.lt).cell 5 (by rw [HCL.out]; rfl); clear hk1 hb1 hg1)
      | ((with_reducible show wpList _ _ _ _ _ w2); refine wpList_storeS rfl 100 _ _ rfl g2 rfl ([.int .u32 (n.ino : Int), .int .u32 (n.gen : Int), .bool true, .int .u32 (n.names.length : Int), .int .u64 (n.chg : Int)]) attZ rfl C2.out rfl (by intro q hq; simp at hq; rcases hq with rfl | rfl | rfl | rfl | rfl <;> rfl) infoAttr ?_; intro w3 hk2 ht2; go_frame; have C3 := Lib.hid hk2; have T3 := Lib.hid ht2; clear hk2 ht2)
      | fail)
    refine bodyPost_ret (results_agg (P := Tryz.prog) (p := 2) (ty := 100) rfl _ _ g2 0 [.int .u32 (n.ino : Int), .int .u32 (n.gen : Int), .bool true, .int .u32 (n.names.length : Int), .int .u64 (n.chg : Int)] rfl (At.whole C3.out) _ Tryz.underlying100 rfl infoAttr) rfl ?_
    exact ⟨by unfold attC; rw [HD.out]; rfl, B2.out.trans (T3.out.below B2.out.size fun q e => e ▸ G2.out)⟩

set_option maxHeartbeats 8000000 in
theorem EqualEn_v (l : List Ent) (A B : Option Addr) (c d : Nat) (F G : Nat → Prop) (w : World) (hl : l.length ≤ 1000000) (ra : RdX entE w F A l) (rb : RdX entE w G B l) :
    Calls Tryz.prog 56 #[.slice A l.length c, .slice B l.length d] w fun e w' => e = .returned (.bool true) ∧ Below w.heap.size w w' := by
  have hmix : Tryz.prog.follows .mixedOrders = true := by kernel_rfl
  have RA := Lib.hid ra
  have RB := Lib.hid rb
  have iln : (l.length : Int) ≤ 1000000 := by omega
  have el' : ((l.length : Int) != (l.length : Int)) = false := by simp
  clear ra rb
  go_enter Tryz.func56, Tryz.ntmps56
  go_wp2
  clear el'
  go_loopw [5, 13] (fun _ j wr => ∃ k : Nat, j = .int .i64 k ∧ k ≤ l.length ∧ Below w.heap.size w wr) (fun _ j _ => l.length - (RowKit.intOf j).toNat)
  case atStart => exact ⟨0, rfl, Nat.zero_le _, Below.refl _ _⟩
  case round =>
    obtain ⟨k, rfl, hkl, hB⟩ := hrel
    have HB := Lib.hid hB
    by_cases hlt : k < l.length
    · obtain ⟨b, off, cs, rfl, hrd, hat⟩ := (RA.out.below hB).get k hlt
      obtain ⟨b', off', ds, rfl, hrd2, hat2⟩ := (RB.out.below hB).get k hlt
      have HA1 := Lib.hid (show At wr b (off + k * 2) cs from hat)
      have HA2 := Lib.hid (show At wr b' (off' + k * 2) ds from hat2)
      have EA := Lib.hid (show cs = [sv l[k].1, .int .u32 (l[k].2 : Int)] from hrd.1)
      have EB := Lib.hid (show ds = [sv l[k].1, .int .u32 (l[k].2 : Int)] from hrd2.1)
      have jw : IntKind.i64.wrap (k : Int) = (k : Int) := by rw [IntKind.wrap_i64]; omega
      have j3 : ¬ (k : Int) < 0 := by omega
      have j5 : ¬ l.length ≤ k := by omega
      generalize l[k] = x at *
      obtain rfl := EA.out
      obtain rfl := EB.out
      clear hrd hrd2 hat hat2 hB EA EB
      go_wp2_with fail
      refine wp_region_V [] (fun u => Below wr.heap.size wr u) hmix ((Below.refl _ _).drew) ?_
      change wpAnyV _ _ _ _ _ _ _ _ _
      refine wpAnyV_take (i := 0) (v := .slice (some ⟨b, off, none⟩) l.length c) 12 (kept_below _) rfl (by kernel_rfl) (by kernel_rfl) (fun _ _ _ h => h) (fun _ h => h) (DoesV.reads (by rfl) fun w9 hS => by go_simp) ?_
      try simp only [List.getElem_toArray, List.getElem_cons_succ, List.getElem_cons_zero, Act.put, List.setIfInBounds_toArray, List.set_cons_succ, List.set_cons_zero]
      refine wpAnyV_take (i := 1) (v := .int .i64 (k : Int)) 12 (kept_below _) rfl (by kernel_rfl) (by kernel_rfl) (fun _ _ _ h => h) (fun _ h => h) (DoesV.reads (by rfl) fun w9 hS => by go_simp) ?_
      try simp only [List.getElem_toArray, List.getElem_cons_succ, List.getElem_cons_zero, Act.put, List.setIfInBounds_toArray, List.set_cons_succ, List.set_cons_zero]
      refine wpAnyV_take (i := 2) (v := .pointer (some ⟨b, off + k * 2, none⟩)) 12 (kept_below _) rfl (by kernel_rfl) (by kernel_rfl) (fun _ _ _ h => h) (fun _ h => h) (DoesV.reads (by rfl) fun w9 hS => by go_simp) ?_
      try simp only [List.getElem_toArray, List.getElem_cons_succ, List.getElem_cons_zero, Act.put, List.setIfInBounds_toArray, List.set_cons_succ, List.set_cons_zero]
      refine wpAnyV_take (i := 3) (v := .agg ([sv x.1, .int .u32 (x.2 : Int)] : List Value).toArray) 12 (kept_below _) rfl (by kernel_rfl) (by kernel_rfl) (fun _ _ _ h => h) (fun _ h => h) (DoesV.loadT (by rfl) 72 _ rfl b (off + k * 2) rfl [sv x.1, .int .u32 (x.2 : Int)] (fun w9 hS => At.tz HA1.out hS) _ Tryz.underlying72 rfl infoEnt) ?_
      try simp only [List.getElem_toArray, List.getElem_cons_succ, List.getElem_cons_zero, Act.put, List.setIfInBounds_toArray, List.set_cons_succ, List.set_cons_zero]
      refine wpAnyV_take (i := 4) (v := .slice (some ⟨b', off', none⟩) l.length d) 12 (kept_below _) rfl (by kernel_rfl) (by kernel_rfl) (fun _ _ _ h => h) (fun _ h => h) (DoesV.reads (by rfl) fun w9 hS => by go_simp) ?_
      try simp only [List.getElem_toArray, List.getElem_cons_succ, List.getElem_cons_zero, Act.put, List.setIfInBounds_toArray, List.set_cons_succ, List.set_cons_zero]
      refine wpAnyV_take (i := 5) (v := .int .i64 (k : Int)) 12 (kept_below _) rfl (by kernel_rfl) (by kernel_rfl) (fun _ _ _ h => h) (fun _ h => h) (DoesV.reads (by rfl) fun w9 hS => by go_simp) ?_
      try simp only [List.getElem_toArray, List.getElem_cons_succ, List.getElem_cons_zero, Act.put, List.setIfInBounds_toArray, List.set_cons_succ, List.set_cons_zero]
      refine wpAnyV_take (i := 6) (v := .pointer (some ⟨b', off' + k * 2, none⟩)) 12 (kept_below _) rfl (by kernel_rfl) (by kernel_rfl) (fun _ _ _ h => h) (fun _ h => h) (DoesV.reads (by rfl) fun w9 hS => by go_simp) ?_
      try simp only [List.getElem_toArray, List.getElem_cons_succ, List.getElem_cons_zero, Act.put, List.setIfInBounds_toArray, List.set_cons_succ, List.set_cons_zero]
      refine wpAnyV_take (i := 7) (v := .agg ([sv x.1, .int .u32 (x.2 : Int)] : List Value).toArray) 12 (kept_below _) rfl (by kernel_rfl) (by kernel_rfl) (fun _ _ _ h => h) (fun _ h => h) (DoesV.loadT (by rfl) 72 _ rfl b' (off' + k * 2) rfl [sv x.1, .int .u32 (x.2 : Int)] (fun w9 hS => At.tz HA2.out hS) _ Tryz.underlying72 rfl infoEnt) ?_
      try simp only [List.getElem_toArray, List.getElem_cons_succ, List.getElem_cons_zero, Act.put, List.setIfInBounds_toArray, List.set_cons_succ, List.set_cons_zero]
      refine wpAnyV_take (i := 8) (v := .bool false) 12 (kept_below _) rfl (by kernel_rfl) (by kernel_rfl) (fun _ _ _ h => h) (fun _ h => h) (DoesV.reads (by rfl) fun w9 hS => by simp only [sv]; go_simp; try simp) ?_
      try simp only [List.getElem_toArray, List.getElem_cons_succ, List.getElem_cons_zero, Act.put, List.setIfInBounds_toArray, List.set_cons_succ, List.set_cons_zero]
      refine wpAnyV_done (by kernel_rfl) (fun wz hz => ?_) _
      have BZ := Lib.hid (below_chain HB.out hz)
      clear hz
      go_wp2_with fail
      go_roundw
      case rel => exact ⟨k + 1, by go_num, hlt, BZ.out⟩
      case measure => simp [RowKit.intOf]; omega
    · clear hB
      go_wp2_with fail
      go_ret
      exact ⟨by first | rfl | simp, HB.out⟩

end Go.Proofs.YtenpmbfncnepgaaGreatDoor

/- The program: Same, of two readings of one tree: it is true. -/
namespace Go.Proofs.YtenpmbfncnepgaaGreatDoor
open Go.RowKit Go.Shelf
set_option linter.unusedVariables false
set_option maxRecDepth 100000
set_option linter.unusedSimpArgs false

set_option maxHeartbeats 8000000 in
theorem isSameNode_v (n : Nd) (cs ds : List Value) (F G : Nat → Prop) (w : World) (h : NdAt w F cs n) (k : NdAt w G ds n) (hn : n.names.length ≤ 1000000) (hd : n.data.length ≤ 1000000) :
    Calls Tryz.prog 23 #[.agg cs.toArray, .agg ds.toArray] w fun e w' => e = .returned (.bool true) ∧ Below w.heap.size w w' := by
  have hmix : Tryz.prog.follows .mixedOrders = true := by kernel_rfl
  have HC := Lib.hid h
  have HD := Lib.hid k
  have HCL := Lib.hid h.len
  have HDL := Lib.hid k.len
  obtain ⟨dv, nv, e1, ⟨A, c, rfl, hra, -⟩, ⟨A2, c2, rfl, hrn, -⟩, -⟩ := h
  obtain ⟨dv', nv', e2, ⟨B, d, rfl, hrb, -⟩, ⟨B2, d2, rfl, hrm, -⟩, -⟩ := k
  have C4 := Lib.hid (show cs[4]? = some (.slice A n.data.length c) by rw [e1]; rfl)
  have C5 := Lib.hid (show cs[5]? = some (.slice A2 n.names.length c2) by rw [e1]; rfl)
  have D4 := Lib.hid (show ds[4]? = some (.slice B n.data.length d) by rw [e2]; rfl)
  have D5 := Lib.hid (show ds[5]? = some (.slice B2 n.names.length d2) by rw [e2]; rfl)
  have RA := Lib.hid hra.rd
  have RB := Lib.hid hrb.rd
  have RN := Lib.hid hrn
  have RM := Lib.hid hrm
  clear e1 e2 hra hrn hrb hrm
  go_enter Tryz.func23, Tryz.ntmps23
  go_wp2_with (first
    | ((with_reducible show wpList _ _ _ _ _ w); refine wpList_boxS rfl 43 _ rfl cs rfl ?_; intro g1 w1 hk1 hb1 hg1; go_frame; have X1 := Lib.hid hk1; have Y1 := Lib.hid hb1; clear hk1 hb1 hg1)
    | ((with_reducible show wpList _ _ _ _ _ w1); refine wpList_boxS rfl 43 _ rfl ds rfl ?_; intro g2 w2 hk1 hb1 hg1; go_frame; have X2 := Lib.hid hk1; have X12 := Lib.hid (X1.out.below hb1 X1.out.lt); have Y2 := Lib.hid (below_chain Y1.out hb1); clear hk1 hb1 hg1)
    | fail)
  refine wp_region_V [] (fun u => Below w2.heap.size w2 u) hmix ((Below.refl _ _).drew) ?_
  change wpAnyV _ _ _ _ _ _ _ _ _
  refine wpAnyV_take (i := 0) (v := .agg cs.toArray) 20 (kept_below _) rfl (by kernel_rfl) (by kernel_rfl) (fun _ _ _ h => h) (fun _ h => h) (DoesV.loadT (by rfl) 43 _ rfl g1 0 rfl cs (fun w9 hS => At.whole (X12.out.below hS X12.out.lt)) _ Tryz.underlying43 rfl (by rw [HCL.out]; exact infoNode)) ?_
  try simp only [List.getElem_toArray, List.getElem_cons_succ, List.getElem_cons_zero, Act.put, List.setIfInBounds_toArray, List.set_cons_succ, List.set_cons_zero]
  refine wpAnyV_take (i := 2) (v := .agg ds.toArray) 20 (kept_below _) rfl (by kernel_rfl) (by kernel_rfl) (fun _ _ _ h => h) (fun _ h => h) (DoesV.loadT (by rfl) 43 _ rfl g2 0 rfl ds (fun w9 hS => At.whole (X2.out.below hS X2.out.lt)) _ Tryz.underlying43 rfl (by rw [HDL.out]; exact infoNode)) ?_
  try simp only [List.getElem_toArray, List.getElem_cons_succ, List.getElem_cons_zero, Act.put, List.setIfInBounds_toArray, List.set_cons_succ, List.set_cons_zero]
  refine wpAnyV_take (i := 1) (v := .agg (attC n).toArray) 20 (kept_below _) rfl (by kernel_rfl) (by kernel_rfl) (fun _ _ _ h => h) (fun _ h => h) (DoesV.calls 55 #[.agg cs.toArray] (by rfl) (fun w9 hS => by go_simp) (fun w9 hS => Attr_v n cs F w9 (HC.out.below (below_chain Y2.out hS)) hn hd)) ?_
  try simp only [List.getElem_toArray, List.getElem_cons_succ, List.getElem_cons_zero, Act.put, List.setIfInBounds_toArray, List.set_cons_succ, List.set_cons_zero]
  refine wpAnyV_take (i := 3) (v := .agg (attC n).toArray) 20 (kept_below _) rfl (by kernel_rfl) (by kernel_rfl) (fun _ _ _ h => h) (fun _ h => h) (DoesV.calls 55 #[.agg ds.toArray] (by rfl) (fun w9 hS => by go_simp) (fun w9 hS => Attr_v n ds G w9 (HD.out.below (below_chain Y2.out hS)) hn hd)) ?_
  try simp only [List.getElem_toArray, List.getElem_cons_succ, List.getElem_cons_zero, Act.put, List.setIfInBounds_toArray, List.set_cons_succ, List.set_cons_zero]
  refine wpAnyV_take (i := 4) (v := .bool true) 20 (kept_below _) rfl (by kernel_rfl) (by kernel_rfl) (fun _ _ _ h => h) (fun _ h => h) (DoesV.reads (by rfl) fun w9 hS => by unfold attC; go_simp; try simp) ?_
  try simp only [List.getElem_toArray, List.getElem_cons_succ, List.getElem_cons_zero, Act.put, List.setIfInBounds_toArray, List.set_cons_succ, List.set_cons_zero]
  refine wpAnyV_take (i := 5) (v := .bool true) 20 (kept_below _) rfl (by kernel_rfl) (by kernel_rfl) (fun _ _ _ h => h) (fun _ h => h) (DoesV.reads (by rfl) fun w9 hS => by go_simp) ?_
  try simp only [List.getElem_toArray, List.getElem_cons_succ, List.getElem_cons_zero, Act.put, List.setIfInBounds_toArray, List.set_cons_succ, List.set_cons_zero]
  refine wpAnyV_take (i := 6) (v := .pointer (some ⟨g1, 4, none⟩)) 20 (kept_below _) rfl (by kernel_rfl) (by kernel_rfl) (fun _ _ _ h => h) (fun _ h => h) (DoesV.reads (by rfl) fun w9 hS => by go_simp) ?_
  try simp only [List.getElem_toArray, List.getElem_cons_succ, List.getElem_cons_zero, Act.put, List.setIfInBounds_toArray, List.set_cons_succ, List.set_cons_zero]
  refine wpAnyV_take (i := 7) (v := .slice A n.data.length c) 20 (kept_below _) rfl (by kernel_rfl) (by kernel_rfl) (fun _ _ _ h => h) (fun _ h => h) (DoesV.reads (by rfl) fun w9 hS => by have q0 : w9.cell? ⟨g1, 4, none⟩ = some (.slice A n.data.length c) := (X12.out.below hS X12.out.lt).cell 4 (by simpa using C4.out); go_simp) ?_
  try simp only [List.getElem_toArray, List.getElem_cons_succ, List.getElem_cons_zero, Act.put, List.setIfInBounds_toArray, List.set_cons_succ, List.set_cons_zero]
  refine wpAnyV_take (i := 8) (v := .pointer (some ⟨g2, 4, none⟩)) 20 (kept_below _) rfl (by kernel_rfl) (by kernel_rfl) (fun _ _ _ h => h) (fun _ h => h) (DoesV.reads (by rfl) fun w9 hS => by go_simp) ?_
  try simp only [List.getElem_toArray, List.getElem_cons_succ, List.getElem_cons_zero, Act.put, List.setIfInBounds_toArray, List.set_cons_succ, List.set_cons_zero]
  refine wpAnyV_take (i := 9) (v := .slice B n.data.length d) 20 (kept_below _) rfl (by kernel_rfl) (by kernel_rfl) (fun _ _ _ h => h) (fun _ h => h) (DoesV.reads (by rfl) fun w9 hS => by have q0 : w9.cell? ⟨g2, 4, none⟩ = some (.slice B n.data.length d) := (X2.out.below hS X2.out.lt).cell 4 (by simpa using D4.out); go_simp) ?_
  try simp only [List.getElem_toArray, List.getElem_cons_succ, List.getElem_cons_zero, Act.put, List.setIfInBounds_toArray, List.set_cons_succ, List.set_cons_zero]
  refine wpAnyV_take (i := 10) (v := .bool true) 20 (kept_below _) rfl (by kernel_rfl) (by kernel_rfl) (fun _ _ _ h => h) (fun _ h => h) (DoesV.calls 54 #[.slice A n.data.length c, .slice B n.data.length d] (by rfl) (fun w9 hS => by go_simp) (fun w9 hS => EqualT n.data A B c d w9 (RA.out.below (below_chain Y2.out hS)) (RB.out.below (below_chain Y2.out hS)))) ?_
  try simp only [List.getElem_toArray, List.getElem_cons_succ, List.getElem_cons_zero, Act.put, List.setIfInBounds_toArray, List.set_cons_succ, List.set_cons_zero]
  refine wpAnyV_take (i := 11) (v := .bool true) 20 (kept_below _) rfl (by kernel_rfl) (by kernel_rfl) (fun _ _ _ h => h) (fun _ h => h) (DoesV.reads (by rfl) fun w9 hS => by go_simp) ?_
  try simp only [List.getElem_toArray, List.getElem_cons_succ, List.getElem_cons_zero, Act.put, List.setIfInBounds_toArray, List.set_cons_succ, List.set_cons_zero]
  refine wpAnyV_take (i := 12) (v := .bool true) 20 (kept_below _) rfl (by kernel_rfl) (by kernel_rfl) (fun _ _ _ h => h) (fun _ h => h) (DoesV.reads (by rfl) fun w9 hS => by go_simp) ?_
  try simp only [List.getElem_toArray, List.getElem_cons_succ, List.getElem_cons_zero, Act.put, List.setIfInBounds_toArray, List.set_cons_succ, List.set_cons_zero]
  refine wpAnyV_take (i := 13) (v := .pointer (some ⟨g1, 5, none⟩)) 20 (kept_below _) rfl (by kernel_rfl) (by kernel_rfl) (fun _ _ _ h => h) (fun _ h => h) (DoesV.reads (by rfl) fun w9 hS => by go_simp) ?_
  try simp only [List.getElem_toArray, List.getElem_cons_succ, List.getElem_cons_zero, Act.put, List.setIfInBounds_toArray, List.set_cons_succ, List.set_cons_zero]
  refine wpAnyV_take (i := 14) (v := .slice A2 n.names.length c2) 20 (kept_below _) rfl (by kernel_rfl) (by kernel_rfl) (fun _ _ _ h => h) (fun _ h => h) (DoesV.reads (by rfl) fun w9 hS => by have q0 : w9.cell? ⟨g1, 5, none⟩ = some (.slice A2 n.names.length c2) := (X12.out.below hS X12.out.lt).cell 5 (by simpa using C5.out); go_simp) ?_
  try simp only [List.getElem_toArray, List.getElem_cons_succ, List.getElem_cons_zero, Act.put, List.setIfInBounds_toArray, List.set_cons_succ, List.set_cons_zero]
  refine wpAnyV_take (i := 15) (v := .pointer (some ⟨g2, 5, none⟩)) 20 (kept_below _) rfl (by kernel_rfl) (by kernel_rfl) (fun _ _ _ h => h) (fun _ h => h) (DoesV.reads (by rfl) fun w9 hS => by go_simp) ?_
  try simp only [List.getElem_toArray, List.getElem_cons_succ, List.getElem_cons_zero, Act.put, List.setIfInBounds_toArray, List.set_cons_succ, List.set_cons_zero]
  refine wpAnyV_take (i := 16) (v := .slice B2 n.names.length d2) 20 (kept_below _) rfl (by kernel_rfl) (by kernel_rfl) (fun _ _ _ h => h) (fun _ h => h) (DoesV.reads (by rfl) fun w9 hS => by have q0 : w9.cell? ⟨g2, 5, none⟩ = some (.slice B2 n.names.length d2) := (X2.out.below hS X2.out.lt).cell 5 (by simpa using D5.out); go_simp) ?_
  try simp only [List.getElem_toArray, List.getElem_cons_succ, List.getElem_cons_zero, Act.put, List.setIfInBounds_toArray, List.set_cons_succ, List.set_cons_zero]
  refine wpAnyV_take (i := 17) (v := .bool true) 20 (kept_below _) rfl (by kernel_rfl) (by kernel_rfl) (fun _ _ _ h => h) (fun _ h => h) (DoesV.calls 56 #[.slice A2 n.names.length c2, .slice B2 n.names.length d2] (by rfl) (fun w9 hS => by go_simp) (fun w9 hS => EqualEn_v n.names A2 B2 c2 d2 F G w9 hn (RN.out.below (below_chain Y2.out hS)) (RM.out.below (below_chain Y2.out hS)))) ?_
  try simp only [List.getElem_toArray, List.getElem_cons_succ, List.getElem_cons_zero, Act.put, List.setIfInBounds_toArray, List.set_cons_succ, List.set_cons_zero]
  refine wpAnyV_take (i := 18) (v := .bool true) 20 (kept_below _) rfl (by kernel_rfl) (by kernel_rfl) (fun _ _ _ h => h) (fun _ h => h) (DoesV.reads (by rfl) fun w9 hS => by go_simp) ?_
  try simp only [List.getElem_toArray, List.getElem_cons_succ, List.getElem_cons_zero, Act.put, List.setIfInBounds_toArray, List.set_cons_succ, List.set_cons_zero]
  refine wpAnyV_take (i := 19) (v := .bool true) 20 (kept_below _) rfl (by kernel_rfl) (by kernel_rfl) (fun _ _ _ h => h) (fun _ h => h) (DoesV.reads (by rfl) fun w9 hS => by go_simp) ?_
  try simp only [List.getElem_toArray, List.getElem_cons_succ, List.getElem_cons_zero, Act.put, List.setIfInBounds_toArray, List.set_cons_succ, List.set_cons_zero]
  refine wpAnyV_done (by kernel_rfl) (fun wz hz => ?_) _
  have BZ := Lib.hid (below_chain Y2.out hz)
  clear hz
  go_wp2_with fail
  go_ret
  exact ⟨by first | rfl | simp, BZ.out⟩
set_option maxHeartbeats 8000000 in
theorem EqualNd_v (l : List Nd) (A B : Option Addr) (c d : Nat) (F G : Nat → Prop) (w : World) (hl : l.length ≤ 1000000) (hs : ∀ n ∈ l, n.names.length ≤ 1000000 ∧ n.data.length ≤ 1000000) (ra : RdX nodeE w F A l) (rb : RdX nodeE w G B l) :
    Calls Tryz.prog 22 #[.slice A l.length c, .slice B l.length d, .func (.func 23) #[] #[]] w fun e w' => e = .returned (.bool true) ∧ Below w.heap.size w w' := by
  have RA := Lib.hid ra
  have RB := Lib.hid rb
  have HS := Lib.hid hs
  have iln : (l.length : Int) ≤ 1000000 := by omega
  have el' : ((l.length : Int) != (l.length : Int)) = false := by simp
  clear ra rb hs
  go_enter Tryz.func22, Tryz.ntmps22
  go_wp2
  clear el'
  go_loopw [7, 17] (fun _ j wr => ∃ k : Nat, j = .int .i64 k ∧ k ≤ l.length ∧ Below w.heap.size w wr) (fun _ j _ => l.length - (RowKit.intOf j).toNat)
  case atStart => exact ⟨0, rfl, Nat.zero_le _, Below.refl _ _⟩
  case round =>
    obtain ⟨k, rfl, hkl, hB⟩ := hrel
    have HB := Lib.hid hB
    by_cases hlt : k < l.length
    · obtain ⟨b, off, cs, rfl, hrd, hat⟩ := (RA.out.below hB).get k hlt
      obtain ⟨b', off', ds, rfl, hrd2, hat2⟩ := (RB.out.below hB).get k hlt
      have HA1 := Lib.hid (show At wr b (off + k * 6) cs from hat)
      have HA2 := Lib.hid (show At wr b' (off' + k * 6) ds from hat2)
      have HD1 := Lib.hid (show NdAt wr F cs l[k] from hrd)
      have HD2 := Lib.hid (show NdAt wr G ds l[k] from hrd2)
      have HSN := Lib.hid (HS.out _ (List.getElem_mem hlt))
      have jw : IntKind.i64.wrap (k : Int) = (k : Int) := by rw [IntKind.wrap_i64]; omega
      have j3 : ¬ (k : Int) < 0 := by omega
      have j5 : ¬ l.length ≤ k := by omega
      generalize l[k] = x at *
      have L1 := Lib.hid HD1.out.len
      have L2 := Lib.hid HD2.out.len
      clear hrd hrd2 hat hat2 hB
      go_wp2_with (first
        | ((with_reducible show wpList _ _ _ _ _ wr); refine wpList_load_agg rfl 43 _ rfl b (off + k * 6) rfl cs HA1.out _ Tryz.underlying43 rfl (by rw [L1.out]; exact infoNode) ?_; go_frame)
        | ((with_reducible show wpList _ _ _ _ _ wr); refine wpList_allocS rfl 43 rfl nodeZ nodeZero ?_; intro g1 w1 hk1 hb1 hg1; go_frame; have C1 := Lib.hid hk1; have B1 := Lib.hid hb1; have G1 := Lib.hid hg1; clear hk1 hb1 hg1)
        | ((with_reducible show wpList _ _ _ _ _ w1); refine wpList_storeS rfl 43 _ _ rfl g1 rfl cs nodeZ rfl C1.out (by rw [L1.out]; rfl) HD1.out.one (by rw [L1.out]; exact infoNode) ?_; intro w2 hk2 ht2; go_frame; have C2 := Lib.hid hk2; have B2 := Lib.hid (show Below wr.heap.size wr w2 from below_turn B1.out ht2 B1.out.size G1.out); clear hk2 ht2)
        | ((with_reducible show wpList _ _ _ _ _ w2); refine wpList_load_agg rfl 43 _ rfl b' (off' + k * 6) rfl ds (At.tz HA2.out B2.out) _ Tryz.underlying43 rfl (by rw [L2.out]; exact infoNode) ?_; go_frame)
        | ((with_reducible show wpList _ _ _ _ _ w2); refine wpList_allocS rfl 43 rfl nodeZ nodeZero ?_; intro g3 w3 hk1 hb1 hg1; go_frame; have C3 := Lib.hid hk1; have C23 := Lib.hid (C2.out.below hb1 C2.out.lt); have B3 := Lib.hid hb1; have G3 := Lib.hid hg1; have K2 := Lib.hid C2.out.lt; clear hk1 hb1 hg1)
        | ((with_reducible show wpList _ _ _ _ _ w3); refine wpList_storeS rfl 43 _ _ rfl g3 rfl ds nodeZ rfl C3.out (by rw [L2.out]; rfl) HD2.out.one (by rw [L2.out]; exact infoNode) ?_; intro w4 hk2 ht2; go_frame; have C4 := Lib.hid hk2; have C24 := Lib.hid (C23.out.turn ht2 (fun e => by have := K2.out; have := G3.out; omega)); have B4 := Lib.hid (show Below wr.heap.size wr w4 from below_chain B2.out (below_turn B3.out ht2 B3.out.size G3.out)); clear hk2 ht2)
        | ((with_reducible show wpList _ _ _ _ _ w4); refine wpList_loadS rfl 43 _ rfl g1 rfl cs C24.out _ Tryz.underlying43 rfl (by rw [L1.out]; exact infoNode) ?_; go_frame)
        | ((with_reducible show wpList _ _ _ _ _ w4); refine wpList_loadS rfl 43 _ rfl g3 rfl ds C4.out _ Tryz.underlying43 rfl (by rw [L2.out]; exact infoNode) ?_; go_frame)
        | fail)
      refine (isSameNode_v x cs ds F G w4 (HD1.out.below B4.out) (HD2.out.below B4.out) HSN.out.1 HSN.out.2).mono ?_
      rintro e w5 ⟨rfl, hb⟩
      have B5 := Lib.hid (below_chain HB.out (below_chain B4.out hb))
      clear hb
      go_wp2_with fail
      go_roundw
      case rel => exact ⟨k + 1, by go_num, hlt, B5.out⟩
      case measure => simp [RowKit.intOf]; omega
    · clear hB
      go_wp2_with fail
      go_ret
      exact ⟨by first | rfl | simp, HB.out⟩

end Go.Proofs.YtenpmbfncnepgaaGreatDoor

/- The program: Same. -/
namespace Go.Proofs.YtenpmbfncnepgaaGreatDoor
open Go.RowKit Go.Shelf
set_option linter.unusedVariables false
set_option maxRecDepth 100000
set_option linter.unusedSimpArgs false

theorem infoSes4 : (Tryz.prog.info? 29).map (·.size) = some 12 := by kernel_rfl
theorem infoSes : (Tryz.prog.info? 28).map (·.size) = some 3 := by kernel_rfl
def sesZ : List Value := [.int .u32 0, .int .u64 0, .slice none 0 0]
theorem sesZero (w : World) : (zeroValue 28).run Tryz.prog w = .ok (.agg sesZ.toArray) w := by kernel_rfl
def ses12 (x0 x1 x2 x3 : Nat × Nat × List UInt8) (a0 a1 a2 a3 : Value) : List Value := [.int .u32 (x0.1 : Int), .int .u64 (x0.2.1 : Int), a0, .int .u32 (x1.1 : Int), .int .u64 (x1.2.1 : Int), a1, .int .u32 (x2.1 : Int), .int .u64 (x2.2.1 : Int), a2, .int .u32 (x3.1 : Int), .int .u64 (x3.2.1 : Int), a3]
theorem idx_ses0 (x0 x1 x2 x3 : Nat × Nat × List UInt8) (a0 a1 a2 a3 : Value) (W : World) : (Instr.index 29 (.agg (ses12 x0 x1 x2 x3 a0 a1 a2 a3).toArray) (.int .i64 0)).run Tryz.prog W = .ok (.agg (sesC x0 a0).toArray) W := by
  first
    | rfl
    | kernel_rfl
    | (unfold ses12 sesC; go_simp; done)
    | (unfold ses12 sesC; simp [Instr.index]; done)
theorem idx_ses1 (x0 x1 x2 x3 : Nat × Nat × List UInt8) (a0 a1 a2 a3 : Value) (W : World) : (Instr.index 29 (.agg (ses12 x0 x1 x2 x3 a0 a1 a2 a3).toArray) (.int .i64 1)).run Tryz.prog W = .ok (.agg (sesC x1 a1).toArray) W := by
  first
    | rfl
    | kernel_rfl
    | (unfold ses12 sesC; go_simp; done)
    | (unfold ses12 sesC; simp [Instr.index]; done)
theorem idx_ses2 (x0 x1 x2 x3 : Nat × Nat × List UInt8) (a0 a1 a2 a3 : Value) (W : World) : (Instr.index 29 (.agg (ses12 x0 x1 x2 x3 a0 a1 a2 a3).toArray) (.int .i64 2)).run Tryz.prog W = .ok (.agg (sesC x2 a2).toArray) W := by
  first
    | rfl
    | kernel_rfl
    | (unfold ses12 sesC; go_simp; done)
    | (unfold ses12 sesC; simp [Instr.index]; done)
theorem idx_ses3 (x0 x1 x2 x3 : Nat × Nat × List UInt8) (a0 a1 a2 a3 : Value) (W : World) : (Instr.index 29 (.agg (ses12 x0 x1 x2 x3 a0 a1 a2 a3).toArray) (.int .i64 3)).run Tryz.prog W = .ok (.agg (sesC x3 a3).toArray) W := by
  first
    | rfl
    | kernel_rfl
    | (unfold ses12 sesC; go_simp; done)
    | (unfold ses12 sesC; simp [Instr.index]; done)
theorem ses_sub0 (x0 x1 x2 x3 : Nat × Nat × List UInt8) (b0 b1 b2 b3 : Value) : ∀ j v, (sesC x0 b0)[j]? = some v → (ses12 x0 x1 x2 x3 b0 b1 b2 b3)[0 + j]? = some v := by
  intro j v h
  match j with
  | 0 => exact h
  | 1 => exact h
  | 2 => exact h
  | j + 3 => simp [sesC] at h
theorem ses_sub1 (x0 x1 x2 x3 : Nat × Nat × List UInt8) (b0 b1 b2 b3 : Value) : ∀ j v, (sesC x1 b1)[j]? = some v → (ses12 x0 x1 x2 x3 b0 b1 b2 b3)[3 + j]? = some v := by
  intro j v h
  match j with
  | 0 => exact h
  | 1 => exact h
  | 2 => exact h
  | j + 3 => simp [sesC] at h
theorem ses_sub2 (x0 x1 x2 x3 : Nat × Nat × List UInt8) (b0 b1 b2 b3 : Value) : ∀ j v, (sesC x2 b2)[j]? = some v → (ses12 x0 x1 x2 x3 b0 b1 b2 b3)[6 + j]? = some v := by
  intro j v h
  match j with
  | 0 => exact h
  | 1 => exact h
  | 2 => exact h
  | j + 3 => simp [sesC] at h
theorem ses_sub3 (x0 x1 x2 x3 : Nat × Nat × List UInt8) (b0 b1 b2 b3 : Value) : ∀ j v, (sesC x3 b3)[j]? = some v → (ses12 x0 x1 x2 x3 b0 b1 b2 b3)[9 + j]? = some v := by
  intro j v h
  match j with
  | 0 => exact h
  | 1 => exact h
  | 2 => exact h
  | j + 3 => simp [sesC] at h
set_option maxHeartbeats 16000000 in
theorem Same_v (t : Tr) (cs ds : List Value) (F G : Nat → Prop) (w : World) (hm : MayT t) (h : TrAt w F cs t) (k : TrAt w G ds t) :
    Calls Tryz.prog 7 #[.agg cs.toArray, .agg ds.toArray] w fun e w' => e = .returned (.bool true) ∧ Below w.heap.size w w' := by
  have hmix : Tryz.prog.follows .mixedOrders = true := by kernel_rfl
  obtain ⟨nv, ss, rfl, ⟨A, c, rfl, hra, -⟩, hse, hl4, hl12, -⟩ := h
  obtain ⟨nv', ss', rfl, ⟨B, d, rfl, hrb, -⟩, hse', hl4', hl12', -⟩ := k
  obtain ⟨x0, x1, x2, x3, a0, a1, a2, a3, he, rfl, h0, h1, h2, h3, -⟩ := hse.four hl4 hl12
  obtain ⟨y0, y1, y2, y3, b0, b1, b2, b3, he', rfl, k0, k1, k2, k3, -⟩ := hse'.four hl4' hl12'
  have hxy : [x0, x1, x2, x3] = [y0, y1, y2, y3] := he.symm.trans he'
  simp only [List.cons.injEq, and_true] at hxy
  obtain ⟨rfl, rfl, rfl, rfl⟩ := hxy
  have RA := Lib.hid hra
  have RB := Lib.hid hrb
  have H0 := Lib.hid (And.intro h0 k0)
  have H1 := Lib.hid (And.intro h1 k1)
  have H2 := Lib.hid (And.intro h2 k2)
  have H3 := Lib.hid (And.intro h3 k3)
  have HM := Lib.hid hm
  clear hse hse' hl4 hl12 hl4' hl12' he he' h0 h1 h2 h3 k0 k1 k2 k3 hra hrb hm
  obtain ⟨cs, hcs⟩ : ∃ cs, cs = Value.slice A t.nodes.length c :: .int .u32 (t.lastGen : Int) :: .int .u32 (t.boot : Int) :: .int .u32 (t.count : Int) :: ses12 x0 x1 x2 x3 a0 a1 a2 a3 := ⟨_, rfl⟩
  obtain ⟨ds, hds⟩ : ∃ ds, ds = Value.slice B t.nodes.length d :: .int .u32 (t.lastGen : Int) :: .int .u32 (t.boot : Int) :: .int .u32 (t.count : Int) :: ses12 x0 x1 x2 x3 b0 b1 b2 b3 := ⟨_, rfl⟩
  have HCS := Lib.hid hcs
  have HDS := Lib.hid hds
  show Calls Tryz.prog 7 #[.agg (Value.slice A t.nodes.length c :: .int .u32 (t.lastGen : Int) :: .int .u32 (t.boot : Int) :: .int .u32 (t.count : Int) :: ses12 x0 x1 x2 x3 a0 a1 a2 a3).toArray, .agg (Value.slice B t.nodes.length d :: .int .u32 (t.lastGen : Int) :: .int .u32 (t.boot : Int) :: .int .u32 (t.count : Int) :: ses12 x0 x1 x2 x3 b0 b1 b2 b3).toArray] w _
  rw [← hcs, ← hds]
  have HSA := Lib.hid (show ∀ j v, (ses12 x0 x1 x2 x3 a0 a1 a2 a3)[j]? = some v → cs[4 + j]? = some v from fun j v h => by rw [hcs, Nat.add_comm]; exact h)
  have HSB := Lib.hid (show ∀ j v, (ses12 x0 x1 x2 x3 b0 b1 b2 b3)[j]? = some v → ds[4 + j]? = some v from fun j v h => by rw [hds, Nat.add_comm]; exact h)
  clear hcs hds
  go_enter Tryz.func7, Tryz.ntmps7
  go_wp2_with (first
    | ((with_reducible show wpList _ _ _ _ _ w); refine wpList_boxS rfl 31 _ rfl cs rfl ?_; intro g1 w1 hk1 hb1 hg1; go_frame; have X1 := Lib.hid hk1; have Y1 := Lib.hid hb1; clear hk1 hb1 hg1)
    | ((with_reducible show wpList _ _ _ _ _ w1); refine wpList_boxS rfl 31 _ rfl ds rfl ?_; intro g2 w2 hk1 hb1 hg1; go_frame; have X2 := Lib.hid hk1; have X12 := Lib.hid (X1.out.below hb1 X1.out.lt); have Y2 := Lib.hid (below_chain Y1.out hb1); clear hk1 hb1 hg1)
    | ((with_reducible show wpList _ _ _ _ _ w2); refine wpList_loadA (by rfl) 29 _ rfl g1 4 rfl (ses12 x0 x1 x2 x3 a0 a1 a2 a3) (fun j v hv => X12.out.cell (4 + j) (by simpa using HSA.out j v hv)) _ Tryz.underlying29 rfl infoSes4 ?_; go_frame)
    | fail)
  go_loopw [5, 6, 9] (fun _ _ j wr => ∃ k : Nat, j = .int .i64 k ∧ k ≤ 4 ∧ Below w2.heap.size w2 wr) (fun _ _ j _ => 4 - (RowKit.intOf j).toNat)
  case atStart => exact ⟨0, rfl, Nat.zero_le _, Below.refl _ _⟩
  case round =>
    obtain ⟨k, rfl, hk4, hB⟩ := hrel
    have HB := Lib.hid hB
    clear hB
    have hk : k = 0 ∨ k = 1 ∨ k = 2 ∨ k = 3 ∨ k = 4 := by omega
    rcases hk with rfl | rfl | rfl | rfl | rfl
    · have hidx := idx_ses0 x0 x1 x2 x3 a0 a1 a2 a3 wr
      go_wp2_with (first
        | ((with_reducible show wpList _ _ _ _ _ wr); refine wpList_allocS rfl 28 rfl sesZ sesZero ?_; intro g6 w3 hk1 hb1 hg1; go_frame; have C3 := Lib.hid hk1; have B3 := Lib.hid hb1; have G3 := Lib.hid hg1; clear hk1 hb1 hg1)
        | ((with_reducible show wpList _ _ _ _ _ w3); refine wpList_storeS rfl 28 _ _ rfl g6 rfl (sesC x0 a0) sesZ rfl C3.out rfl (by intro q hq; simp [sesC] at hq; rcases hq with rfl | rfl | rfl; rfl; rfl; exact H0.out.1.one) infoSes ?_; intro w4 hk2 ht2; go_frame; have C4 := Lib.hid hk2; have B4 := Lib.hid (show Below wr.heap.size wr w4 from below_turn B3.out ht2 B3.out.size G3.out); clear hk2 ht2)
        | fail)
      clear hidx
      have Y4 := Lib.hid (below_chain Y2.out (below_chain HB.out B4.out))
      have X24 := Lib.hid (X2.out.below (below_chain HB.out B4.out) X2.out.lt)
      refine wp_region_V [] (fun u => Below w4.heap.size w4 u) hmix ((Below.refl _ _).drew) ?_
      change wpAnyV _ _ _ _ _ _ _ _ _
      refine wpAnyV_take (i := 0) (v := .agg (sesC x0 a0).toArray) 12 (kept_below _) rfl (by kernel_rfl) (by kernel_rfl) (fun _ _ _ h => h) (fun _ h => h) (DoesV.loadT (by rfl) 28 _ rfl g6 0 rfl (sesC x0 a0) (fun w9 hS => At.whole (C4.out.below hS C4.out.lt)) _ Tryz.underlying28 rfl infoSes) ?_
      try simp only [List.getElem_toArray, List.getElem_cons_succ, List.getElem_cons_zero, Act.put, List.setIfInBounds_toArray, List.set_cons_succ, List.set_cons_zero]
      refine wpAnyV_take (i := 1) (v := .int .i64 ((0 : Nat) : Int)) 12 (kept_below _) rfl (by kernel_rfl) (by kernel_rfl) (fun _ _ _ h => h) (fun _ h => h) (DoesV.reads (by rfl) fun w9 hS => by go_simp) ?_
      try simp only [List.getElem_toArray, List.getElem_cons_succ, List.getElem_cons_zero, Act.put, List.setIfInBounds_toArray, List.set_cons_succ, List.set_cons_zero]
      refine wpAnyV_take (i := 2) (v := .pointer (some ⟨g2, 4, none⟩)) 12 (kept_below _) rfl (by kernel_rfl) (by kernel_rfl) (fun _ _ _ h => h) (fun _ h => h) (DoesV.reads (by rfl) fun w9 hS => by go_simp) ?_
      try simp only [List.getElem_toArray, List.getElem_cons_succ, List.getElem_cons_zero, Act.put, List.setIfInBounds_toArray, List.set_cons_succ, List.set_cons_zero]
      refine wpAnyV_take (i := 3) (v := .pointer (some ⟨g2, 4, none⟩)) 12 (kept_below _) rfl (by kernel_rfl) (by kernel_rfl) (fun _ _ _ h => h) (fun _ h => h) (DoesV.reads (by rfl) fun w9 hS => by go_simp) ?_
      try simp only [List.getElem_toArray, List.getElem_cons_succ, List.getElem_cons_zero, Act.put, List.setIfInBounds_toArray, List.set_cons_succ, List.set_cons_zero]
      refine wpAnyV_take (i := 4) (v := .agg (sesC x0 b0).toArray) 12 (kept_below _) rfl (by kernel_rfl) (by kernel_rfl) (fun _ _ _ h => h) (fun _ h => h) (DoesV.loadT (by rfl) 28 _ rfl g2 4 rfl (sesC x0 b0) (fun w9 hS j v hv => (X24.out.below hS X24.out.lt).cell (4 + j) (by have h9 := HSB.out (0 + j) v (ses_sub0 x0 x1 x2 x3 b0 b1 b2 b3 j v hv); rw [← Nat.add_assoc] at h9; simpa using h9)) _ Tryz.underlying28 rfl infoSes) ?_
      try simp only [List.getElem_toArray, List.getElem_cons_succ, List.getElem_cons_zero, Act.put, List.setIfInBounds_toArray, List.set_cons_succ, List.set_cons_zero]
      refine wpAnyV_take (i := 5) (v := .bool true) 12 (kept_below _) rfl (by kernel_rfl) (by kernel_rfl) (fun _ _ _ h => h) (fun _ h => h) (DoesV.calls 21 #[.agg (sesC x0 a0).toArray, .agg (sesC x0 b0).toArray] (by rfl) (fun w9 hS => by go_simp) (fun w9 hS => isSameSession_v x0 a0 b0 F G w9 (H0.out.1.below (below_chain Y4.out hS)) (H0.out.2.below (below_chain Y4.out hS)))) ?_
      try simp only [List.getElem_toArray, List.getElem_cons_succ, List.getElem_cons_zero, Act.put, List.setIfInBounds_toArray, List.set_cons_succ, List.set_cons_zero]
      refine wpAnyV_take (i := 6) (v := .bool false) 12 (kept_below _) rfl (by kernel_rfl) (by kernel_rfl) (fun _ _ _ h => h) (fun _ h => h) (DoesV.reads (by rfl) fun w9 hS => by go_simp) ?_
      try simp only [List.getElem_toArray, List.getElem_cons_succ, List.getElem_cons_zero, Act.put, List.setIfInBounds_toArray, List.set_cons_succ, List.set_cons_zero]
      refine wpAnyV_done (by kernel_rfl) (fun wz hz => ?_) _
      have BZ := Lib.hid (below_chain HB.out (below_chain B4.out hz))
      clear hz
      go_wp2_with fail
      go_roundw
      case rel => exact ⟨1, by go_num, by omega, BZ.out⟩
      case measure => simp [RowKit.intOf]
    · have hidx := idx_ses1 x0 x1 x2 x3 a0 a1 a2 a3 wr
      go_wp2_with (first
        | ((with_reducible show wpList _ _ _ _ _ wr); refine wpList_allocS rfl 28 rfl sesZ sesZero ?_; intro g6 w3 hk1 hb1 hg1; go_frame; have C3 := Lib.hid hk1; have B3 := Lib.hid hb1; have G3 := Lib.hid hg1; clear hk1 hb1 hg1)
        | ((with_reducible show wpList _ _ _ _ _ w3); refine wpList_storeS rfl 28 _ _ rfl g6 rfl (sesC x1 a1) sesZ rfl C3.out rfl (by intro q hq; simp [sesC] at hq; rcases hq with rfl | rfl | rfl; rfl; rfl; exact H1.out.1.one) infoSes ?_; intro w4 hk2 ht2; go_frame; have C4 := Lib.hid hk2; have B4 := Lib.hid (show Below wr.heap.size wr w4 from below_turn B3.out ht2 B3.out.size G3.out); clear hk2 ht2)
        | fail)
      clear hidx
      have Y4 := Lib.hid (below_chain Y2.out (below_chain HB.out B4.out))
      have X24 := Lib.hid (X2.out.below (below_chain HB.out B4.out) X2.out.lt)
      refine wp_region_V [] (fun u => Below w4.heap.size w4 u) hmix ((Below.refl _ _).drew) ?_
      change wpAnyV _ _ _ _ _ _ _ _ _
      refine wpAnyV_take (i := 0) (v := .agg (sesC x1 a1).toArray) 12 (kept_below _) rfl (by kernel_rfl) (by kernel_rfl) (fun _ _ _ h => h) (fun _ h => h) (DoesV.loadT (by rfl) 28 _ rfl g6 0 rfl (sesC x1 a1) (fun w9 hS => At.whole (C4.out.below hS C4.out.lt)) _ Tryz.underlying28 rfl infoSes) ?_
      try simp only [List.getElem_toArray, List.getElem_cons_succ, List.getElem_cons_zero, Act.put, List.setIfInBounds_toArray, List.set_cons_succ, List.set_cons_zero]
      refine wpAnyV_take (i := 1) (v := .int .i64 ((1 : Nat) : Int)) 12 (kept_below _) rfl (by kernel_rfl) (by kernel_rfl) (fun _ _ _ h => h) (fun _ h => h) (DoesV.reads (by rfl) fun w9 hS => by go_simp) ?_
      try simp only [List.getElem_toArray, List.getElem_cons_succ, List.getElem_cons_zero, Act.put, List.setIfInBounds_toArray, List.set_cons_succ, List.set_cons_zero]
      refine wpAnyV_take (i := 2) (v := .pointer (some ⟨g2, 4, none⟩)) 12 (kept_below _) rfl (by kernel_rfl) (by kernel_rfl) (fun _ _ _ h => h) (fun _ h => h) (DoesV.reads (by rfl) fun w9 hS => by go_simp) ?_
      try simp only [List.getElem_toArray, List.getElem_cons_succ, List.getElem_cons_zero, Act.put, List.setIfInBounds_toArray, List.set_cons_succ, List.set_cons_zero]
      refine wpAnyV_take (i := 3) (v := .pointer (some ⟨g2, 7, none⟩)) 12 (kept_below _) rfl (by kernel_rfl) (by kernel_rfl) (fun _ _ _ h => h) (fun _ h => h) (DoesV.reads (by rfl) fun w9 hS => by go_simp) ?_
      try simp only [List.getElem_toArray, List.getElem_cons_succ, List.getElem_cons_zero, Act.put, List.setIfInBounds_toArray, List.set_cons_succ, List.set_cons_zero]
      refine wpAnyV_take (i := 4) (v := .agg (sesC x1 b1).toArray) 12 (kept_below _) rfl (by kernel_rfl) (by kernel_rfl) (fun _ _ _ h => h) (fun _ h => h) (DoesV.loadT (by rfl) 28 _ rfl g2 7 rfl (sesC x1 b1) (fun w9 hS j v hv => (X24.out.below hS X24.out.lt).cell (7 + j) (by have h9 := HSB.out (3 + j) v (ses_sub1 x0 x1 x2 x3 b0 b1 b2 b3 j v hv); rw [← Nat.add_assoc] at h9; simpa using h9)) _ Tryz.underlying28 rfl infoSes) ?_
      try simp only [List.getElem_toArray, List.getElem_cons_succ, List.getElem_cons_zero, Act.put, List.setIfInBounds_toArray, List.set_cons_succ, List.set_cons_zero]
      refine wpAnyV_take (i := 5) (v := .bool true) 12 (kept_below _) rfl (by kernel_rfl) (by kernel_rfl) (fun _ _ _ h => h) (fun _ h => h) (DoesV.calls 21 #[.agg (sesC x1 a1).toArray, .agg (sesC x1 b1).toArray] (by rfl) (fun w9 hS => by go_simp) (fun w9 hS => isSameSession_v x1 a1 b1 F G w9 (H1.out.1.below (below_chain Y4.out hS)) (H1.out.2.below (below_chain Y4.out hS)))) ?_
      try simp only [List.getElem_toArray, List.getElem_cons_succ, List.getElem_cons_zero, Act.put, List.setIfInBounds_toArray, List.set_cons_succ, List.set_cons_zero]
      refine wpAnyV_take (i := 6) (v := .bool false) 12 (kept_below _) rfl (by kernel_rfl) (by kernel_rfl) (fun _ _ _ h => h) (fun _ h => h) (DoesV.reads (by rfl) fun w9 hS => by go_simp) ?_
      try simp only [List.getElem_toArray, List.getElem_cons_succ, List.getElem_cons_zero, Act.put, List.setIfInBounds_toArray, List.set_cons_succ, List.set_cons_zero]
      refine wpAnyV_done (by kernel_rfl) (fun wz hz => ?_) _
      have BZ := Lib.hid (below_chain HB.out (below_chain B4.out hz))
      clear hz
      go_wp2_with fail
      go_roundw
      case rel => exact ⟨2, by go_num, by omega, BZ.out⟩
      case measure => simp [RowKit.intOf]
    · have hidx := idx_ses2 x0 x1 x2 x3 a0 a1 a2 a3 wr
      go_wp2_with (first
        | ((with_reducible show wpList _ _ _ _ _ wr); refine wpList_allocS rfl 28 rfl sesZ sesZero ?_; intro g6 w3 hk1 hb1 hg1; go_frame; have C3 := Lib.hid hk1; have B3 := Lib.hid hb1; have G3 := Lib.hid hg1; clear hk1 hb1 hg1)
        | ((with_reducible show wpList _ _ _ _ _ w3); refine wpList_storeS rfl 28 _ _ rfl g6 rfl (sesC x2 a2) sesZ rfl C3.out rfl (by intro q hq; simp [sesC] at hq; rcases hq with rfl | rfl | rfl; rfl; rfl; exact H2.out.1.one) infoSes ?_; intro w4 hk2 ht2; go_frame; have C4 := Lib.hid hk2; have B4 := Lib.hid (show Below wr.heap.size wr w4 from below_turn B3.out ht2 B3.out.size G3.out); clear hk2 ht2)
        | fail)
      clear hidx
      have Y4 := Lib.hid (below_chain Y2.out (below_chain HB.out B4.out))
      have X24 := Lib.hid (X2.out.below (below_chain HB.out B4.out) X2.out.lt)
      refine wp_region_V [] (fun u => Below w4.heap.size w4 u) hmix ((Below.refl _ _).drew) ?_
      change wpAnyV _ _ _ _ _ _ _ _ _
      refine wpAnyV_take (i := 0) (v := .agg (sesC x2 a2).toArray) 12 (kept_below _) rfl (by kernel_rfl) (by kernel_rfl) (fun _ _ _ h => h) (fun _ h => h) (DoesV.loadT (by rfl) 28 _ rfl g6 0 rfl (sesC x2 a2) (fun w9 hS => At.whole (C4.out.below hS C4.out.lt)) _ Tryz.underlying28 rfl infoSes) ?_
      try simp only [List.getElem_toArray, List.getElem_cons_succ, List.getElem_cons_zero, Act.put, List.setIfInBounds_toArray, List.set_cons_succ, List.set_cons_zero]
      refine wpAnyV_take (i := 1) (v := .int .i64 ((2 : Nat) : Int)) 12 (kept_below _) rfl (by kernel_rfl) (by kernel_rfl) (fun _ _ _ h => h) (fun _ h => h) (DoesV.reads (by rfl) fun w9 hS => by go_simp) ?_
      try simp only [List.getElem_toArray, List.getElem_cons_succ, List.getElem_cons_zero, Act.put, List.setIfInBounds_toArray, List.set_cons_succ, List.set_cons_zero]
      refine wpAnyV_take (i := 2) (v := .pointer (some ⟨g2, 4, none⟩)) 12 (kept_below _) rfl (by kernel_rfl) (by kernel_rfl) (fun _ _ _ h => h) (fun _ h => h) (DoesV.reads (by rfl) fun w9 hS => by go_simp) ?_
      try simp only [List.getElem_toArray, List.getElem_cons_succ, List.getElem_cons_zero, Act.put, List.setIfInBounds_toArray, List.set_cons_succ, List.set_cons_zero]
      refine wpAnyV_take (i := 3) (v := .pointer (some ⟨g2, 10, none⟩)) 12 (kept_below _) rfl (by kernel_rfl) (by kernel_rfl) (fun _ _ _ h => h) (fun _ h => h) (DoesV.reads (by rfl) fun w9 hS => by go_simp) ?_
      try simp only [List.getElem_toArray, List.getElem_cons_succ, List.getElem_cons_zero, Act.put, List.setIfInBounds_toArray, List.set_cons_succ, List.set_cons_zero]
      refine wpAnyV_take (i := 4) (v := .agg (sesC x2 b2).toArray) 12 (kept_below _) rfl (by kernel_rfl) (by kernel_rfl) (fun _ _ _ h => h) (fun _ h => h) (DoesV.loadT (by rfl) 28 _ rfl g2 10 rfl (sesC x2 b2) (fun w9 hS j v hv => (X24.out.below hS X24.out.lt).cell (10 + j) (by have h9 := HSB.out (6 + j) v (ses_sub2 x0 x1 x2 x3 b0 b1 b2 b3 j v hv); rw [← Nat.add_assoc] at h9; simpa using h9)) _ Tryz.underlying28 rfl infoSes) ?_
      try simp only [List.getElem_toArray, List.getElem_cons_succ, List.getElem_cons_zero, Act.put, List.setIfInBounds_toArray, List.set_cons_succ, List.set_cons_zero]
      refine wpAnyV_take (i := 5) (v := .bool true) 12 (kept_below _) rfl (by kernel_rfl) (by kernel_rfl) (fun _ _ _ h => h) (fun _ h => h) (DoesV.calls 21 #[.agg (sesC x2 a2).toArray, .agg (sesC x2 b2).toArray] (by rfl) (fun w9 hS => by go_simp) (fun w9 hS => isSameSession_v x2 a2 b2 F G w9 (H2.out.1.below (below_chain Y4.out hS)) (H2.out.2.below (below_chain Y4.out hS)))) ?_
      try simp only [List.getElem_toArray, List.getElem_cons_succ, List.getElem_cons_zero, Act.put, List.setIfInBounds_toArray, List.set_cons_succ, List.set_cons_zero]
      refine wpAnyV_take (i := 6) (v := .bool false) 12 (kept_below _) rfl (by kernel_rfl) (by kernel_rfl) (fun _ _ _ h => h) (fun _ h => h) (DoesV.reads (by rfl) fun w9 hS => by go_simp) ?_
      try simp only [List.getElem_toArray, List.getElem_cons_succ, List.getElem_cons_zero, Act.put, List.setIfInBounds_toArray, List.set_cons_succ, List.set_cons_zero]
      refine wpAnyV_done (by kernel_rfl) (fun wz hz => ?_) _
      have BZ := Lib.hid (below_chain HB.out (below_chain B4.out hz))
      clear hz
      go_wp2_with fail
      go_roundw
      case rel => exact ⟨3, by go_num, by omega, BZ.out⟩
      case measure => simp [RowKit.intOf]
    · have hidx := idx_ses3 x0 x1 x2 x3 a0 a1 a2 a3 wr
      go_wp2_with (first
        | ((with_reducible show wpList _ _ _ _ _ wr); refine wpList_allocS rfl 28 rfl sesZ sesZero ?_; intro g6 w3 hk1 hb1 hg1; go_frame; have C3 := Lib.hid hk1; have B3 := Lib.hid hb1; have G3 := Lib.hid hg1; clear hk1 hb1 hg1)
        | ((with_reducible show wpList _ _ _ _ _ w3); refine wpList_storeS rfl 28 _ _ rfl g6 rfl (sesC x3 a3) sesZ rfl C3.out rfl (by intro q hq; simp [sesC] at hq; rcases hq with rfl | rfl | rfl; rfl; rfl; exact H3.out.1.one) infoSes ?_; intro w4 hk2 ht2; go_frame; have C4 := Lib.hid hk2; have B4 := Lib.hid (show Below wr.heap.size wr w4 from below_turn B3.out ht2 B3.out.size G3.out); clear hk2 ht2)
        | fail)
      clear hidx
      have Y4 := Lib.hid (below_chain Y2.out (below_chain HB.out B4.out))
      have X24 := Lib.hid (X2.out.below (below_chain HB.out B4.out) X2.out.lt)
      refine wp_region_V [] (fun u => Below w4.heap.size w4 u) hmix ((Below.refl _ _).drew) ?_
      change wpAnyV _ _ _ _ _ _ _ _ _
      refine wpAnyV_take (i := 0) (v := .agg (sesC x3 a3).toArray) 12 (kept_below _) rfl (by kernel_rfl) (by kernel_rfl) (fun _ _ _ h => h) (fun _ h => h) (DoesV.loadT (by rfl) 28 _ rfl g6 0 rfl (sesC x3 a3) (fun w9 hS => At.whole (C4.out.below hS C4.out.lt)) _ Tryz.underlying28 rfl infoSes) ?_
      try simp only [List.getElem_toArray, List.getElem_cons_succ, List.getElem_cons_zero, Act.put, List.setIfInBounds_toArray, List.set_cons_succ, List.set_cons_zero]
      refine wpAnyV_take (i := 1) (v := .int .i64 ((3 : Nat) : Int)) 12 (kept_below _) rfl (by kernel_rfl) (by kernel_rfl) (fun _ _ _ h => h) (fun _ h => h) (DoesV.reads (by rfl) fun w9 hS => by go_simp) ?_
      try simp only [List.getElem_toArray, List.getElem_cons_succ, List.getElem_cons_zero, Act.put, List.setIfInBounds_toArray, List.set_cons_succ, List.set_cons_zero]
      refine wpAnyV_take (i := 2) (v := .pointer (some ⟨g2, 4, none⟩)) 12 (kept_below _) rfl (by kernel_rfl) (by kernel_rfl) (fun _ _ _ h => h) (fun _ h => h) (DoesV.reads (by rfl) fun w9 hS => by go_simp) ?_
      try simp only [List.getElem_toArray, List.getElem_cons_succ, List.getElem_cons_zero, Act.put, List.setIfInBounds_toArray, List.set_cons_succ, List.set_cons_zero]
      refine wpAnyV_take (i := 3) (v := .pointer (some ⟨g2, 13, none⟩)) 12 (kept_below _) rfl (by kernel_rfl) (by kernel_rfl) (fun _ _ _ h => h) (fun _ h => h) (DoesV.reads (by rfl) fun w9 hS => by go_simp) ?_
      try simp only [List.getElem_toArray, List.getElem_cons_succ, List.getElem_cons_zero, Act.put, List.setIfInBounds_toArray, List.set_cons_succ, List.set_cons_zero]
      refine wpAnyV_take (i := 4) (v := .agg (sesC x3 b3).toArray) 12 (kept_below _) rfl (by kernel_rfl) (by kernel_rfl) (fun _ _ _ h => h) (fun _ h => h) (DoesV.loadT (by rfl) 28 _ rfl g2 13 rfl (sesC x3 b3) (fun w9 hS j v hv => (X24.out.below hS X24.out.lt).cell (13 + j) (by have h9 := HSB.out (9 + j) v (ses_sub3 x0 x1 x2 x3 b0 b1 b2 b3 j v hv); rw [← Nat.add_assoc] at h9; simpa using h9)) _ Tryz.underlying28 rfl infoSes) ?_
      try simp only [List.getElem_toArray, List.getElem_cons_succ, List.getElem_cons_zero, Act.put, List.setIfInBounds_toArray, List.set_cons_succ, List.set_cons_zero]
      refine wpAnyV_take (i := 5) (v := .bool true) 12 (kept_below _) rfl (by kernel_rfl) (by kernel_rfl) (fun _ _ _ h => h) (fun _ h => h) (DoesV.calls 21 #[.agg (sesC x3 a3).toArray, .agg (sesC x3 b3).toArray] (by rfl) (fun w9 hS => by go_simp) (fun w9 hS => isSameSession_v x3 a3 b3 F G w9 (H3.out.1.below (below_chain Y4.out hS)) (H3.out.2.below (below_chain Y4.out hS)))) ?_
      try simp only [List.getElem_toArray, List.getElem_cons_succ, List.getElem_cons_zero, Act.put, List.setIfInBounds_toArray, List.set_cons_succ, List.set_cons_zero]
      refine wpAnyV_take (i := 6) (v := .bool false) 12 (kept_below _) rfl (by kernel_rfl) (by kernel_rfl) (fun _ _ _ h => h) (fun _ h => h) (DoesV.reads (by rfl) fun w9 hS => by go_simp) ?_
      try simp only [List.getElem_toArray, List.getElem_cons_succ, List.getElem_cons_zero, Act.put, List.setIfInBounds_toArray, List.set_cons_succ, List.set_cons_zero]
      refine wpAnyV_done (by kernel_rfl) (fun wz hz => ?_) _
      have BZ := Lib.hid (below_chain HB.out (below_chain B4.out hz))
      clear hz
      go_wp2_with fail
      go_roundw
      case rel => exact ⟨4, by go_num, by omega, BZ.out⟩
      case measure => simp [RowKit.intOf]
    · have X1r := Lib.hid (X12.out.below HB.out X12.out.lt)
      have X2r := Lib.hid (X2.out.below HB.out X2.out.lt)
      have q10 : wr.cell? ⟨g1, 0, none⟩ = some (.slice A t.nodes.length c) := X1r.out.cell 0 (by rw [HCS.out]; rfl)
      have q11 : wr.cell? ⟨g1, 1, none⟩ = some (.int .u32 (t.lastGen : Int)) := X1r.out.cell 1 (by rw [HCS.out]; rfl)
      have q12 : wr.cell? ⟨g1, 2, none⟩ = some (.int .u32 (t.boot : Int)) := X1r.out.cell 2 (by rw [HCS.out]; rfl)
      have q13 : wr.cell? ⟨g1, 3, none⟩ = some (.int .u32 (t.count : Int)) := X1r.out.cell 3 (by rw [HCS.out]; rfl)
      have q20 : wr.cell? ⟨g2, 0, none⟩ = some (.slice B t.nodes.length d) := X2r.out.cell 0 (by rw [HDS.out]; rfl)
      have q21 : wr.cell? ⟨g2, 1, none⟩ = some (.int .u32 (t.lastGen : Int)) := X2r.out.cell 1 (by rw [HDS.out]; rfl)
      have q22 : wr.cell? ⟨g2, 2, none⟩ = some (.int .u32 (t.boot : Int)) := X2r.out.cell 2 (by rw [HDS.out]; rfl)
      have q23 : wr.cell? ⟨g2, 3, none⟩ = some (.int .u32 (t.count : Int)) := X2r.out.cell 3 (by rw [HDS.out]; rfl)
      have Yr := Lib.hid (below_chain Y2.out HB.out)
      go_wp2_with fail
      refine (EqualNd_v t.nodes A B c d F G wr (by have := HM.out.many; omega) (fun n hn => ⟨by have := (HM.out.ok n hn).many; omega, by have := (HM.out.ok n hn).size; omega⟩) (RA.out.below Yr.out) (RB.out.below Yr.out)).mono ?_
      rintro e w5 ⟨rfl, hb⟩
      have B5 := Lib.hid (below_chain Yr.out hb)
      clear hb
      go_wp2_with fail
      go_ret
      exact ⟨by first | rfl | simp, B5.out⟩

end Go.Proofs.YtenpmbfncnepgaaGreatDoor
