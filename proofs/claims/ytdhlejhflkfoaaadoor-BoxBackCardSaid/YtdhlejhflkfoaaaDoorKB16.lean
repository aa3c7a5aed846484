/- SWEPT -/
import Derived.Test.YtdhlejhflkfoaaaDoorKB15
import Derived.Test.YtdhlejhflkfoaaaDoorKB9
import Derived.Test.YtdhlejhflkfoaaaDoorKB10
import Derived.Test.YtdhlejhflkfoaaaDoorKB14
/- TzYK: TzY TzX TzSa. -/
/- The program: what Same asks of bytes, sessions, entries, nodes: of two readings of one thing it is true. -/
namespace Go.Proofs.YtdhlejhflkfoaaaDoor
open Go.RowKit Go.Shelf
set_option linter.unusedVariables false
set_option maxRecDepth 100000
set_option linter.unusedSimpArgs false

theorem EqualT (p : List UInt8) (A B : Option Addr) (c d : Nat) (w : World) (hp : Rd w A p) (hq : Rd w B p) :
    Calls Tryd.prog 63 #[.slice A p.length c, .slice B p.length d] w fun e w' => e = .returned (.bool true) ∧ Below w.heap.size w w' := by
  have h1 := conv_rd hp c
  have h2 := conv_rd hq d
  clear hp hq
  go_enter Tryd.func63, Tryd.ntmps63
  go_wp2_with fail
  go_ret
  exact ⟨by first | rfl | simp, Below.refl _ _⟩
set_option maxHeartbeats 4000000 in
theorem isSameSession_v (x : Nat × Nat × List UInt8) (a b : Value) (F G : Nat → Prop) (w : World) (ha : BsV w F a x.2.2) (hb : BsV w G b x.2.2) :
    Calls Tryd.prog 39 #[.agg (sesC x a).toArray, .agg (sesC x b).toArray] w fun e w' => e = .returned (.bool true) ∧ Below w.heap.size w w' := by
  obtain ⟨A, c, rfl, hra, -⟩ := ha
  obtain ⟨B, d, rfl, hrb, -⟩ := hb
  have HA := Lib.hid hra.rd
  have HB := Lib.hid hrb.rd
  clear hra hrb
  go_enter Tryd.func39, Tryd.ntmps39
  go_wp2_with (first
    | ((with_reducible show wpList _ _ _ _ _ w); refine wpList_boxS rfl 27 _ rfl (sesC x (.slice A x.2.2.length c)) rfl ?_; intro g1 w1 hk1 hb1 hg1; go_frame; have C1 := Lib.hid hk1; have B1 := Lib.hid hb1; clear hk1 hb1 hg1)
    | ((with_reducible show wpList _ _ _ _ _ w1); refine wpList_boxS rfl 27 _ rfl (sesC x (.slice B x.2.2.length d)) rfl ?_; intro g2 w2 hk1 hb1 hg1; go_frame; have B2 := Lib.hid (below_chain B1.out hb1); have C12 := Lib.hid (C1.out.below hb1 C1.out.lt); have q10 : w2.cell? ⟨g1, 0, none⟩ = some (.int .u32 (x.1 : Int)) := (C1.out.below hb1 C1.out.lt).cell 0 rfl; have q11 : w2.cell? ⟨g1, 1, none⟩ = some (.int .u64 (x.2.1 : Int)) := (C1.out.below hb1 C1.out.lt).cell 1 rfl; have q12 : w2.cell? ⟨g1, 2, none⟩ = some (.slice A x.2.2.length c) := (C1.out.below hb1 C1.out.lt).cell 2 rfl; have q20 : w2.cell? ⟨g2, 0, none⟩ = some (.int .u32 (x.1 : Int)) := hk1.cell 0 rfl; have q21 : w2.cell? ⟨g2, 1, none⟩ = some (.int .u64 (x.2.1 : Int)) := hk1.cell 1 rfl; have q22 : w2.cell? ⟨g2, 2, none⟩ = some (.slice B x.2.2.length d) := hk1.cell 2 rfl; clear hk1 hb1 hg1)
    | fail)
  refine (EqualT x.2.2 A B c d w2 (HA.out.below B2.out) (HB.out.below B2.out)).mono ?_
  rintro e w3 ⟨rfl, hb⟩
  have B3 := Lib.hid (below_chain B2.out hb)
  clear hb
  go_wp2_with fail
  go_ret
  exact ⟨by first | rfl | simp, B3.out⟩
/-- what is told of a node -/
def attC (n : Nd) : List Value := [.int .u32 (n.ino : Int), .int .u32 (n.gen : Int), .bool n.dir, .int .u32 ((if n.dir then n.names.length else n.data.length : Nat) : Int), .int .u64 (n.chg : Int)]
def attZ : List Value := [.int .u32 0, .int .u32 0, .bool false, .int .u32 0, .int .u64 0]
theorem attZero (w : World) : (zeroValue 99).run Tryd.prog w = .ok (.agg attZ.toArray) w := by kernel_rfl
theorem infoAttr : (Tryd.prog.info? 99).map (·.size) = some 5 := by kernel_rfl
set_option maxHeartbeats 4000000 in
theorem Attr_v (n : Nd) (cs : List Value) (F : Nat → Prop) (w : World) (h : NdAt w F cs n) (hn : n.names.length ≤ 1000000) (hd : n.data.length ≤ 1000000) :
    Calls Tryd.prog 64 #[.agg cs.toArray] w fun e w' => e = .returned (.agg (attC n).toArray) ∧ Below w.heap.size w w' := by
  obtain ⟨dv, nv, rfl, ⟨A, c, rfl, -⟩, ⟨B, d, rfl, -⟩, -⟩ := h
  obtain ⟨cl, hcl⟩ : ∃ cl, cl = ndC n (.slice A n.data.length c) (.slice B n.names.length d) := ⟨_, rfl⟩
  rw [← hcl]
  have HCL := Lib.hid hcl
  have j1 : IntKind.u32.wrap (n.data.length : Int) = n.data.length := IntWalk.u32_in _ (by omega)
  have j2 : IntKind.u32.wrap (n.names.length : Int) = n.names.length := IntWalk.u32_in _ (by omega)
  clear hcl
  cases hdir : n.dir
  · have HD := Lib.hid hdir
    clear hdir
    go_enter Tryd.func64, Tryd.ntmps64
    go_wp2_with (first
      | ((with_reducible show wpList _ _ _ _ _ w); refine wpList_boxS rfl 48 _ rfl cl rfl ?_; intro g1 w1 hk1 hb1 hg1; go_frame; have C1 := Lib.hid hk1; have B1 := Lib.hid hb1; clear hk1 hb1 hg1)
      | ((with_reducible show wpList _ _ _ _ _ w1); refine wpList_allocS rfl 99 rfl attZ attZero ?_; intro g2 w2 hk1 hb1 hg1; go_frame; have C2 := Lib.hid hk1; have B2 := Lib.hid (below_chain B1.out hb1); have G2 := Lib.hid (Nat.le_trans B1.out.size hg1); have q0 : w2.cell? ⟨g1, 0, none⟩ = some (.int .u32 (n.ino : Int)) := (C1.out.below hb1 C1.out.lt).cell 0 (by rw [HCL.out]; rfl); have q1 : w2.cell? ⟨g1, 1, none⟩ = some (.int .u32 (n.gen : Int)) := (C1.out.below hb1 C1.out.lt).cell 1 (by rw [HCL.out]; rfl); have q2 : w2.cell? ⟨g1, 2, none⟩ = some (.bool false) := (C1.out.below hb1 C1.out.lt).cell 2 (by rw [HCL.out, ← HD.out]; rfl); have q3 : w2.cell? ⟨g1, 3, none⟩ = some (.int .u64 (n.chg : Int)) := (C1.out.below hb1 C1.out.lt).cell 3 (by rw [HCL.out]; rfl); have q4 : w2.cell? ⟨g1, 4, none⟩ = some (.slice A n.data.length c) := (C1.out.below hb1 C1.out.lt).cell 4 (by rw [HCL.out]; rfl); have q5 : w2.cell? ⟨g1, 5, none⟩ = some (.slice B n.names.length d) := (C1.out.below hb1 C1.out.lt).cell 5 (by rw [HCL.out]; rfl); clear hk1 hb1 hg1)
      | ((with_reducible show wpList _ _ _ _ _ w2); refine wpList_storeS rfl 99 _ _ rfl g2 rfl ([.int .u32 (n.ino : Int), .int .u32 (n.gen : Int), .bool false, .int .u32 (n.data.length : Int), .int .u64 (n.chg : Int)]) attZ rfl C2.out rfl (by intro q hq; simp at hq; rcases hq with rfl | rfl | rfl | rfl | rfl <;> rfl) infoAttr ?_; intro w3 hk2 ht2; go_frame; have C3 := Lib.hid hk2; have T3 := Lib.hid ht2; clear hk2 ht2)
      | fail)
    refine bodyPost_ret (results_agg (P := Tryd.prog) (p := 2) (ty := 99) rfl _ _ g2 0 [.int .u32 (n.ino : Int), .int .u32 (n.gen : Int), .bool false, .int .u32 (n.data.length : Int), .int .u64 (n.chg : Int)] rfl (At.whole C3.out) _ Tryd.underlying99 rfl infoAttr) rfl ?_
    exact ⟨by unfold attC; rw [HD.out]; rfl, B2.out.trans (T3.out.below B2.out.size fun q e => e ▸ G2.out)⟩
  · have HD := Lib.hid hdir
    clear hdir
    go_enter Tryd.func64, Tryd.ntmps64
    go_wp2_with (first
      | ((with_reducible show wpList _ _ _ _ _ w); refine wpList_boxS rfl 48 _ rfl cl rfl ?_; intro g1 w1 hk1 hb1 hg1; go_frame; have C1 := Lib.hid hk1; have B1 := Lib.hid hb1; clear hk1 hb1 hg1)
      | ((with_reducible show wpList _ _ _ _ _ w1); refine wpList_allocS rfl 99 rfl attZ attZero ?_; intro g2 w2 hk1 hb1 hg1; go_frame; have C2 := Lib.hid hk1; have B2 := Lib.hid (below_chain B1.out hb1); have G2 := Lib.hid (Nat.le_trans B1.out.size hg1); have q0 : w2.cell? ⟨g1, 0, none⟩ = some (.int .u32 (n.ino : Int)) := (C1.out.below hb1 C1.out.lt).cell 0 (by rw [HCL.out]; rfl); have q1 : w2.cell? ⟨g1, 1, none⟩ = some (.int .u32 (n.gen : Int)) := (C1.out.below hb1 C1.out.lt).cell 1 (by rw [HCL.out]; rfl); have q2 : w2.cell? ⟨g1, 2, none⟩ = some (.bool true) := (C1.out.below hb1 C1.out.lt).cell 2 (by rw [HCL.out, ← HD.out]; rfl); have q3 : w2.cell? ⟨g1, 3, none⟩ = some (.int .u64 (n.chg : Int)) := (C1.out.below hb1 C1.out.lt).cell 3 (by rw [HCL.out]; rfl); have q4 : w2.cell? ⟨g1, 4, none⟩ = some (.slice A n.data.length c) := (C1.out.below hb1 C1.out.lt).cell 4 (by rw [HCL.out]; rfl); have q5 : w2.cell? ⟨g1, 5, none⟩ = some (.slice B n.names.length d) := (C1.out.below hb1 C1.out.lt).cell 5 (by rw [HCL.out]; rfl); clear hk1 hb1 hg1)
      | ((with_reducible show wpList _ _ _ _ _ w2); refine wpList_storeS rfl 99 _ _ rfl g2 rfl ([.int .u32 (n.ino : Int), .int .u32 (n.gen : Int), .bool true, .int .u32 (n.names.length : Int), .int .u64 (n.chg : Int)]) attZ rfl C2.out rfl (by intro q hq; simp at hq; rcases hq with rfl | rfl | rfl | rfl | rfl <;> rfl) infoAttr ?_; intro w3 hk2 ht2; go_frame; have C3 := Lib.hid hk2; have T3 := Lib.hid ht2; clear hk2 ht2)
      | fail)
    refine bodyPost_ret (results_agg (P := Tryd.prog) (p := 2) (ty := 99) rfl _ _ g2 0 [.int .u32 (n.ino : Int), .int .u32 (n.gen : Int), .bool true, .int .u32 (n.names.length : Int), .int .u64 (n.chg : Int)] rfl (At.whole C3.out) _ Tryd.underlying99 rfl infoAttr) rfl ?_
    exact ⟨by unfold attC; rw [HD.out]; rfl, B2.out.trans (T3.out.below B2.out.size fun q e => e ▸ G2.out)⟩

set_option maxHeartbeats 8000000 in
theorem EqualEn_v (l : List Ent) (A B : Option Addr) (c d : Nat) (F G : Nat → Prop) (w : World) (hl : l.length ≤ 1000000) (ra : RdX entE w F A l) (rb : RdX entE w G B l) :
    Calls Tryd.prog 65 #[.slice A l.length c, .slice B l.length d] w fun e w' => e = .returned (.bool true) ∧ Below w.heap.size w w' := by
  have hmix : Tryd.prog.follows .mixedOrders = true := by kernel_rfl
  have RA := Lib.hid ra
  have RB := Lib.hid rb
  have iln : (l.length : Int) ≤ 1000000 := by omega
  have el' : ((l.length : Int) != (l.length : Int)) = false := by simp
  clear ra rb
  go_enter Tryd.func65, Tryd.ntmps65
  go_wp2
  clear el'
  go_loopw [5, 13] (fun _ j wr => ∃ k : Nat, j = .int .i64 k ∧ k ≤ l.length ∧ Below w.heap.size w wr) (fun _ j _ => l.length - (RowKit.intOf j).toNat)
  case atStart => exact ⟨0, rfl, Nat.zero_le _, Below.refl _ _⟩
  case round =>
    obtain ⟨k, rfl, hkl, hB⟩ := hrel
    have HB := Lib.hid hB
    by_cases hlt : k < l.length
    · obtain ⟨b, off, cs, rfl, hrd, hat⟩ := (RA.out.below hB).get k hlt
      obtain ⟨b', off', ds, rfl, hrd2, hat2⟩ := (RB.out.below hB).get k hlt
      have HA1 := Lib.hid (show At wr b (off + k * 2) cs from hat)
      have HA2 := Lib.hid (show At wr b' (off' + k * 2) ds from hat2)
      have EA := Lib.hid (show cs = [sv l[k].1, .int .u32 (l[k].2 : Int)] from hrd.1)
      have EB := Lib.hid (show ds = [sv l[k].1, .int .u32 (l[k].2 : Int)] from hrd2.1)
      have jw : IntKind.i64.wrap (k : Int) = (k : Int) := by rw [IntKind.wrap_i64]; omega
      have j3 : ¬ (k : Int) < 0 := by omega
      have j5 : ¬ l.length ≤ k := by omega
      generalize l[k] = x at *
      obtain rfl := EA.out
      obtain rfl := EB.out
      clear hrd hrd2 hat hat2 hB EA EB
      go_wp2_with fail
      refine wp_region_V [] (fun u => Below wr.heap.size wr u) hmix ((Below.refl _ _).drew) ?_
      change wpAnyV _ _ _ _ _ _ _ _ _
      refine wpAnyV_take (i := 0) (v := .slice (some ⟨b, off, none⟩) l.length c) 12 (kept_below _) rfl (by kernel_rfl) (by kernel_rfl) (fun _ _ _ h => h) (fun _ h => h) (DoesV.reads (by rfl) fun w9 hS => by go_simp) ?_
      try simp only [nrm, Act.put]
      refine wpAnyV_take (i := 1) (v := .int .i64 (k : Int)) 12 (kept_below _) rfl (by kernel_rfl) (by kernel_rfl) (fun _ _ _ h => h) (fun _ h => h) (DoesV.reads (by rfl) fun w9 hS => by go_simp) ?_
      try simp only [nrm, Act.put]
      refine wpAnyV_take (i := 2) (v := .pointer (some ⟨b, off + k * 2, none⟩)) 12 (kept_below _) rfl (by kernel_rfl) (by kernel_rfl) (fun _ _ _ h => h) (fun _ h => h) (DoesV.reads (by rfl) fun w9 hS => by go_simp) ?_
      try simp only [nrm, Act.put]
      refine wpAnyV_take (i := 3) (v := .agg ([sv x.1, .int .u32 (x.2 : Int)] : List Value).toArray) 12 (kept_below _) rfl (by kernel_rfl) (by kernel_rfl) (fun _ _ _ h => h) (fun _ h => h) (DoesV.loadT (by rfl) 80 _ rfl b (off + k * 2) rfl [sv x.1, .int .u32 (x.2 : Int)] (fun w9 hS => At.tz HA1.out hS) _ Tryd.underlying80 rfl infoEnt) ?_
      try simp only [nrm, Act.put]
      refine wpAnyV_take (i := 4) (v := .slice (some ⟨b', off', none⟩) l.length d) 12 (kept_below _) rfl (by kernel_rfl) (by kernel_rfl) (fun _ _ _ h => h) (fun _ h => h) (DoesV.reads (by rfl) fun w9 hS => by go_simp) ?_
      try simp only [nrm, Act.put]
      refine wpAnyV_take (i := 5) (v := .int .i64 (k : Int)) 12 (kept_below _) rfl (by kernel_rfl) (by kernel_rfl) (fun _ _ _ h => h) (fun _ h => h) (DoesV.reads (by rfl) fun w9 hS => by go_simp) ?_
      try simp only [nrm, Act.put]
      refine wpAnyV_take (i := 6) (v := .pointer (some ⟨b', off' + k * 2, none⟩)) 12 (kept_below _) rfl (by kernel_rfl) (by kernel_rfl) (fun _ _ _ h => h) (fun _ h => h) (DoesV.reads (by rfl) fun w9 hS => by go_simp) ?_
      try simp only [nrm, Act.put]
      refine wpAnyV_take (i := 7) (v := .agg ([sv x.1, .int .u32 (x.2 : Int)] : List Value).toArray) 12 (kept_below _) rfl (by kernel_rfl) (by kernel_rfl) (fun _ _ _ h => h) (fun _ h => h) (DoesV.loadT (by rfl) 80 _ rfl b' (off' + k * 2) rfl [sv x.1, .int .u32 (x.2 : Int)] (fun w9 hS => At.tz HA2.out hS) _ Tryd.underlying80 rfl infoEnt) ?_
      try simp only [nrm, Act.put]
      refine wpAnyV_take (i := 8) (v := .bool false) 12 (kept_below _) rfl (by kernel_rfl) (by kernel_rfl) (fun _ _ _ h => h) (fun _ h => h) (DoesV.reads (by rfl) fun w9 hS => by simp only [sv]; go_simp; try simp) ?_
      try simp only [nrm, Act.put]
      refine wpAnyV_done (by kernel_rfl) (fun wz hz => ?_) _
      have BZ := Lib.hid (below_chain HB.out hz)
      clear hz
      go_wp2_with fail
      go_roundw
      case rel => exact ⟨k + 1, by go_num, hlt, BZ.out⟩
      case measure => simp [RowKit.intOf]; omega
    · clear hB
      go_wp2_with fail
      go_ret
      exact ⟨by first | rfl | simp, HB.out⟩

end Go.Proofs.YtdhlejhflkfoaaaDoor

/- The program: Same, of two readings of one tree: it is true. -/
namespace Go.Proofs.YtdhlejhflkfoaaaDoor
open Go.RowKit Go.Shelf
set_option linter.unusedVariables false
set_option maxRecDepth 100000
set_option linter.unusedSimpArgs false

set_option maxHeartbeats 8000000 in
theorem isSameNode_v (n : Nd) (cs ds : List Value) (F G : Nat → Prop) (w : World) (h : NdAt w F cs n) (k : NdAt w G ds n) (hn : n.names.length ≤ 1000000) (hd : n.data.length ≤ 1000000) :
    Calls Tryd.prog 41 #[.agg cs.toArray, .agg ds.toArray] w fun e w' => e = .returned (.bool true) ∧ Below w.heap.size w w' := by
  have hmix : Tryd.prog.follows .mixedOrders = true := by kernel_rfl
  have HC := Lib.hid h
  have HD := Lib.hid k
  have HCL := Lib.hid h.len
  have HDL := Lib.hid k.len
  obtain ⟨dv, nv, e1, ⟨A, c, rfl, hra, -⟩, ⟨A2, c2, rfl, hrn, -⟩, -⟩ := h
  obtain ⟨dv', nv', e2, ⟨B, d, rfl, hrb, -⟩, ⟨B2, d2, rfl, hrm, -⟩, -⟩ := k
  have C4 := Lib.hid (show cs[4]? = some (.slice A n.data.length c) by rw [e1]; rfl)
  have C5 := Lib.hid (show cs[5]? = some (.slice A2 n.names.length c2) by rw [e1]; rfl)
  have D4 := Lib.hid (show ds[4]? = some (.slice B n.data.length d) by rw [e2]; rfl)
  have D5 := Lib.hid (show ds[5]? = some (.slice B2 n.names.length d2) by rw [e2]; rfl)
  have RA := Lib.hid hra.rd
  have RB := Lib.hid hrb.rd
  have RN := Lib.hid hrn
  have RM := Lib.hid hrm
  clear e1 e2 hra hrn hrb hrm
  go_enter Tryd.func41, Tryd.ntmps41
  go_wp2_with (first
    | ((with_reducible show wpList _ _ _ _ _ w); refine wpList_boxS rfl 48 _ rfl cs rfl ?_; intro g1 w1 hk1 hb1 hg1; go_frame; have X1 := Lib.hid hk1; have Y1 := Lib.hid hb1; clear hk1 hb1 hg1)
    | ((with_reducible show wpList _ _ _ _ _ w1); refine wpList_boxS rfl 48 _ rfl ds rfl ?_; intro g2 w2 hk1 hb1 hg1; go_frame; have X2 := Lib.hid hk1; have X12 := Lib.hid (X1.out.below hb1 X1.out.lt); have Y2 := Lib.hid (below_chain Y1.out hb1); clear hk1 hb1 hg1)
    | fail)
  refine wp_region_V [] (fun u => Below w2.heap.size w2 u) hmix ((Below.refl _ _).drew) ?_
  change wpAnyV _ _ _ _ _ _ _ _ _
  refine wpAnyV_take (i := 0) (v := .agg cs.toArray) 20 (kept_below _) rfl (by kernel_rfl) (by kernel_rfl) (fun _ _ _ h => h) (fun _ h => h) (DoesV.loadT (by rfl) 48 _ rfl g1 0 rfl cs (fun w9 hS => At.whole (X12.out.below hS X12.out.lt)) _ Tryd.underlying48 rfl (by rw [HCL.out]; exact infoNode)) ?_
  try simp only [nrm, Act.put]
  refine wpAnyV_take (i := 2) (v := .agg ds.toArray) 20 (kept_below _) rfl (by kernel_rfl) (by kernel_rfl) (fun _ _ _ h => h) (fun _ h => h) (DoesV.loadT (by rfl) 48 _ rfl g2 0 rfl ds (fun w9 hS => At.whole (X2.out.below hS X2.out.lt)) _ Tryd.underlying48 rfl (by rw [HDL.out]; exact infoNode)) ?_
  try simp only [nrm, Act.put]
  refine wpAnyV_take (i := 1) (v := .agg (attC n).toArray) 20 (kept_below _) rfl (by kernel_rfl) (by kernel_rfl) (fun _ _ _ h => h) (fun _ h => h) (DoesV.calls 64 #[.agg cs.toArray] (by rfl) (fun w9 hS => by go_simp) (fun w9 hS => Attr_v n cs F w9 (HC.out.below (below_chain Y2.out hS)) hn hd)) ?_
  try simp only [nrm, Act.put]
  refine wpAnyV_take (i := 3) (v := .agg (attC n).toArray) 20 (kept_below _) rfl (by kernel_rfl) (by kernel_rfl) (fun _ _ _ h => h) (fun _ h => h) (DoesV.calls 64 #[.agg ds.toArray] (by rfl) (fun w9 hS => by go_simp) (fun w9 hS => Attr_v n ds G w9 (HD.out.below (below_chain Y2.out hS)) hn hd)) ?_
  try simp only [nrm, Act.put]
  refine wpAnyV_take (i := 4) (v := .bool true) 20 (kept_below _) rfl (by kernel_rfl) (by kernel_rfl) (fun _ _ _ h => h) (fun _ h => h) (DoesV.reads (by rfl) fun w9 hS => by unfold attC; go_simp; try simp) ?_
  try simp only [nrm, Act.put]
  refine wpAnyV_take (i := 5) (v := .bool true) 20 (kept_below _) rfl (by kernel_rfl) (by kernel_rfl) (fun _ _ _ h => h) (fun _ h => h) (DoesV.reads (by rfl) fun w9 hS => by go_simp) ?_
  try simp only [nrm, Act.put]
  refine wpAnyV_take (i := 6) (v := .pointer (some ⟨g1, 4, none⟩)) 20 (kept_below _) rfl (by kernel_rfl) (by kernel_rfl) (fun _ _ _ h => h) (fun _ h => h) (DoesV.reads (by rfl) fun w9 hS => by go_simp) ?_
  try simp only [nrm, Act.put]
  refine wpAnyV_take (i := 7) (v := .slice A n.data.length c) 20 (kept_below _) rfl (by kernel_rfl) (by kernel_rfl) (fun _ _ _ h => h) (fun _ h => h) (DoesV.reads (by rfl) fun w9 hS => by have q0 : w9.cell? ⟨g1, 4, none⟩ = some (.slice A n.data.length c) := (X12.out.below hS X12.out.lt).cell 4 (by simpa using C4.out); go_simp) ?_
  try simp only [nrm, Act.put]
  refine wpAnyV_take (i := 8) (v := .pointer (some ⟨g2, 4, none⟩)) 20 (kept_below _) rfl (by kernel_rfl) (by kernel_rfl) (fun _ _ _ h => h) (fun _ h => h) (DoesV.reads (by rfl) fun w9 hS => by go_simp) ?_
  try simp only [nrm, Act.put]
  refine wpAnyV_take (i := 9) (v := .slice B n.data.length d) 20 (kept_below _) rfl (by kernel_rfl) (by kernel_rfl) (fun _ _ _ h => h) (fun _ h => h) (DoesV.reads (by rfl) fun w9 hS => by have q0 : w9.cell? ⟨g2, 4, none⟩ = some (.slice B n.data.length d) := (X2.out.below hS X2.out.lt).cell 4 (by simpa using D4.out); go_simp) ?_
  try simp only [nrm, Act.put]
  refine wpAnyV_take (i := 10) (v := .bool true) 20 (kept_below _) rfl (by kernel_rfl) (by kernel_rfl) (fun _ _ _ h => h) (fun _ h => h) (DoesV.calls 63 #[.slice A n.data.length c, .slice B n.data.length d] (by rfl) (fun w9 hS => by go_simp) (fun w9 hS => EqualT n.data A B c d w9 (RA.out.below (below_chain Y2.out hS)) (RB.out.below (below_chain Y2.out hS)))) ?_
  try simp only [nrm, Act.put]
  refine wpAnyV_take (i := 11) (v := .bool true) 20 (kept_below _) rfl (by kernel_rfl) (by kernel_rfl) (fun _ _ _ h => h) (fun _ h => h) (DoesV.reads (by rfl) fun w9 hS => by go_simp) ?_
  try simp only [nrm, Act.put]
  refine wpAnyV_take (i := 12) (v := .bool true) 20 (kept_below _) rfl (by kernel_rfl) (by kernel_rfl) (fun _ _ _ h => h) (fun _ h => h) (DoesV.reads (by rfl) fun w9 hS => by go_simp) ?_
  try simp only [nrm, Act.put]
  refine wpAnyV_take (i := 13) (v := .pointer (some ⟨g1, 5, none⟩)) 20 (kept_below _) rfl (by kernel_rfl) (by kernel_rfl) (fun _ _ _ h => h) (fun _ h => h) (DoesV.reads (by rfl) fun w9 hS => by go_simp) ?_
  try simp only [nrm, Act.put]
  refine wpAnyV_take (i := 14) (v := .slice A2 n.names.length c2) 20 (kept_below _) rfl (by kernel_rfl) (by kernel_rfl) (fun _ _ _ h => h) (fun _ h => h) (DoesV.reads (by rfl) fun w9 hS => by have q0 : w9.cell? ⟨g1, 5, none⟩ = some (.slice A2 n.names.length c2) := (X12.out.below hS X12.out.lt).cell 5 (by simpa using C5.out); go_simp) ?_
  try simp only [nrm, Act.put]
  refine wpAnyV_take (i := 15) (v := .pointer (some ⟨g2, 5, none⟩)) 20 (kept_below _) rfl (by kernel_rfl) (by kernel_rfl) (fun _ _ _ h => h) (fun _ h => h) (DoesV.reads (by rfl) fun w9 hS => by go_simp) ?_
  try simp only [nrm, Act.put]
  refine wpAnyV_take (i := 16) (v := .slice B2 n.names.length d2) 20 (kept_below _) rfl (by kernel_rfl) (by kernel_rfl) (fun _ _ _ h => h) (fun _ h => h) (DoesV.reads (by rfl) fun w9 hS => by have q0 : w9.cell? ⟨g2, 5, none⟩ = some (.slice B2 n.names.length d2) := (X2.out.below hS X2.out.lt).cell 5 (by simpa using D5.out); go_simp) ?_
  try simp only [nrm, Act.put]
  refine wpAnyV_take (i := 17) (v := .bool true) 20 (kept_below _) rfl (by kernel_rfl) (by kernel_rfl) (fun _ _ _ h => h) (fun _ h => h) (DoesV.calls 65 #[.slice A2 n.names.length c2, .slice B2 n.names.length d2] (by rfl) (fun w9 hS => by go_simp) (fun w9 hS => EqualEn_v n.names A2 B2 c2 d2 F G w9 hn (RN.out.below (below_chain Y2.out hS)) (RM.out.below (below_chain Y2.out hS)))) ?_
  try simp only [nrm, Act.put]
  refine wpAnyV_take (i := 18) (v := .bool true) 20 (kept_below _) rfl (by kernel_rfl) (by kernel_rfl) (fun _ _ _ h => h) (fun _ h => h) (DoesV.reads (by rfl) fun w9 hS => by go_simp) ?_
  try simp only [nrm, Act.put]
  refine wpAnyV_take (i := 19) (v := .bool true) 20 (kept_below _) rfl (by kernel_rfl) (by kernel_rfl) (fun _ _ _ h => h) (fun _ h => h) (DoesV.reads (by rfl) fun w9 hS => by go_simp) ?_
  try simp only [nrm, Act.put]
  refine wpAnyV_done (by kernel_rfl) (fun wz hz => ?_) _
  have BZ := Lib.hid (below_chain Y2.out hz)
  clear hz
  go_wp2_with fail
  go_ret
  exact ⟨by first | rfl | simp, BZ.out⟩
set_option maxHeartbeats 8000000 in
theorem EqualNd_v (l : List Nd) (A B : Option Addr) (c d : Nat) (F G : Nat → Prop) (w : World) (hl : l.length ≤ 1000000) (hs : ∀ n ∈ l, n.names.length ≤ 1000000 ∧ n.data.length ≤ 1000000) (ra : RdX nodeE w F A l) (rb : RdX nodeE w G B l) :
    Calls Tryd.prog 40 #[.slice A l.length c, .slice B l.length d, .func (.func 41) #[] #[]] w fun e w' => e = .returned (.bool true) ∧ Below w.heap.size w w' := by
  have RA := Lib.hid ra
  have RB := Lib.hid rb
  have HS := Lib.hid hs
  have iln : (l.length : Int) ≤ 1000000 := by omega
  have el' : ((l.length : Int) != (l.length : Int)) = false := by simp
  clear ra rb hs
  go_enter Tryd.func40, Tryd.ntmps40
  go_wp2
  clear el'
  go_loopw [7, 17] (fun _ j wr => ∃ k : Nat, j = .int .i64 k ∧ k ≤ l.length ∧ Below w.heap.size w wr) (fun _ j _ => l.length - (RowKit.intOf j).toNat)
  case atStart => exact ⟨0, rfl, Nat.zero_le _, Below.refl _ _⟩
  case round =>
    obtain ⟨k, rfl, hkl, hB⟩ := hrel
    have HB := Lib.hid hB
    by_cases hlt : k < l.length
    · obtain ⟨b, off, cs, rfl, hrd, hat⟩ := (RA.out.below hB).get k hlt
      obtain ⟨b', off', ds, rfl, hrd2, hat2⟩ := (RB.out.below hB).get k hlt
      have HA1 := Lib.hid (show At wr b (off + k * 6) cs from hat)
      have HA2 := Lib.hid (show At wr b' (off' + k * 6) ds from hat2)
      have HD1 := Lib.hid (show NdAt wr F cs l[k] from hrd)
      have HD2 := Lib.hid (show NdAt wr G ds l[k] from hrd2)
      have HSN := Lib.hid (HS.out _ (List.getElem_mem hlt))
      have jw : IntKind.i64.wrap (k : Int) = (k : Int) := by rw [IntKind.wrap_i64]; omega
      have j3 : ¬ (k : Int) < 0 := by omega
      have j5 : ¬ l.length ≤ k := by omega
      generalize l[k] = x at *
      have L1 := Lib.hid HD1.out.len
      have L2 := Lib.hid HD2.out.len
      clear hrd hrd2 hat hat2 hB
      go_wp2_with (first
        | ((with_reducible show wpList _ _ _ _ _ wr); refine wpList_load_agg rfl 48 _ rfl b (off + k * 6) rfl cs HA1.out _ Tryd.underlying48 rfl (by rw [L1.out]; exact infoNode) ?_; go_frame)
        | ((with_reducible show wpList _ _ _ _ _ wr); refine wpList_allocS rfl 48 rfl nodeZ nodeZero ?_; intro g1 w1 hk1 hb1 hg1; go_frame; have C1 := Lib.hid hk1; have B1 := Lib.hid hb1; have G1 := Lib.hid hg1; clear hk1 hb1 hg1)
        | ((with_reducible show wpList _ _ _ _ _ w1); refine wpList_storeS rfl 48 _ _ rfl g1 rfl cs nodeZ rfl C1.out (by rw [L1.out]; rfl) HD1.out.one (by rw [L1.out]; exact infoNode) ?_; intro w2 hk2 ht2; go_frame; have C2 := Lib.hid hk2; have B2 := Lib.hid (show Below wr.heap.size wr w2 from below_turn B1.out ht2 B1.out.size G1.out); clear hk2 ht2)
        | ((with_reducible show wpList _ _ _ _ _ w2); refine wpList_load_agg rfl 48 _ rfl b' (off' + k * 6) rfl ds (At.tz HA2.out B2.out) _ Tryd.underlying48 rfl (by rw [L2.out]; exact infoNode) ?_; go_frame)
        | ((with_reducible show wpList _ _ _ _ _ w2); refine wpList_allocS rfl 48 rfl nodeZ nodeZero ?_; intro g3 w3 hk1 hb1 hg1; go_frame; have C3 := Lib.hid hk1; have C23 := Lib.hid (C2.out.below hb1 C2.out.lt); have B3 := Lib.hid hb1; have G3 := Lib.hid hg1; have K2 := Lib.hid C2.out.lt; clear hk1 hb1 hg1)
        | ((with_reducible show wpList _ _ _ _ _ w3); refine wpList_storeS rfl 48 _ _ rfl g3 rfl ds nodeZ rfl C3.out (by rw [L2.out]; rfl) HD2.out.one (by rw [L2.out]; exact infoNode) ?_; intro w4 hk2 ht2; go_frame; have C4 := Lib.hid hk2; have C24 := Lib.hid (C23.out.turn ht2 (fun e => by have := K2.out; have := G3.out; omega)); have B4 := Lib.hid (show Below wr.heap.size wr w4 from below_chain B2.out (below_turn B3.out ht2 B3.out.size G3.out)); clear hk2 ht2)
        | ((with_reducible show wpList _ _ _ _ _ w4); refine wpList_loadS rfl 48 _ rfl g1 rfl cs C24.out _ Tryd.underlying48 rfl (by rw [L1.out]; exact infoNode) ?_; go_frame)
        | ((with_reducible show wpList _ _ _ _ _ w4); refine wpList_loadS rfl 48 _ rfl g3 rfl ds C4.out _ Tryd.underlying48 rfl (by rw [L2.out]; exact infoNode) ?_; go_frame)
        | fail)
      refine (isSameNode_v x cs ds F G w4 (HD1.out.below B4.out) (HD2.out.below B4.out) HSN.out.1 HSN.out.2).mono ?_
      rintro e w5 ⟨rfl, hb⟩
      have B5 := Lib.hid (below_chain HB.out (below_chain B4.out hb))
      clear hb
      go_wp2_with fail
      go_roundw
      case rel => exact ⟨k + 1, by go_num, hlt, B5.out⟩
      case measure => simp [RowKit.intOf]; omega
    · clear hB
      go_wp2_with fail
      go_ret
      exact ⟨by first | rfl | simp, HB.out⟩

end Go.Proofs.YtdhlejhflkfoaaaDoor

/- The program: Same. -/
namespace Go.Proofs.YtdhlejhflkfoaaaDoor
open Go.RowKit Go.Shelf
set_option linter.unusedVariables false
set_option maxRecDepth 100000
set_option linter.unusedSimpArgs false

set_option maxHeartbeats 16000000 in
theorem Same_v (t : Tr) (cs ds : List Value) (F G : Nat → Prop) (w : World) (hm : MayT t) (h : TrAt w F cs t) (k : TrAt w G ds t) :
    Calls Tryd.prog 20 #[.agg cs.toArray, .agg ds.toArray] w fun e w' => e = .returned (.bool true) ∧ Below w.heap.size w w' := by
  have hmix : Tryd.prog.follows .mixedOrders = true := by kernel_rfl
  obtain ⟨nv, ss, rfl, ⟨A, c, rfl, hra, -⟩, hse, hl4, hl12, -⟩ := h
  obtain ⟨nv', ss', rfl, ⟨B, d, rfl, hrb, -⟩, hse', hl4', hl12', -⟩ := k
  obtain ⟨x0, x1, x2, x3, a0, a1, a2, a3, he, rfl, h0, h1, h2, h3, -⟩ := hse.four hl4 hl12
  obtain ⟨y0, y1, y2, y3, b0, b1, b2, b3, he', rfl, k0, k1, k2, k3, -⟩ := hse'.four hl4' hl12'
  have hxy : [x0, x1, x2, x3] = [y0, y1, y2, y3] := he.symm.trans he'
  simp only [List.cons.injEq, and_true] at hxy
  obtain ⟨rfl, rfl, rfl, rfl⟩ := hxy
  have RA := Lib.hid hra
  have RB := Lib.hid hrb
  have H0 := Lib.hid (And.intro h0 k0)
  have H1 := Lib.hid (And.intro h1 k1)
  have H2 := Lib.hid (And.intro h2 k2)
  have H3 := Lib.hid (And.intro h3 k3)
  have HM := Lib.hid hm
  clear hse hse' hl4 hl12 hl4' hl12' he he' h0 h1 h2 h3 k0 k1 k2 k3 hra hrb hm
  obtain ⟨cs, hcs⟩ : ∃ cs, cs = Value.slice A t.nodes.length c :: .int .u32 (t.lastGen : Int) :: .int .u32 (t.boot : Int) :: .int .u32 (t.count : Int) :: ses12 x0 x1 x2 x3 a0 a1 a2 a3 := ⟨_, rfl⟩
  obtain ⟨ds, hds⟩ : ∃ ds, ds = Value.slice B t.nodes.length d :: .int .u32 (t.lastGen : Int) :: .int .u32 (t.boot : Int) :: .int .u32 (t.count : Int) :: ses12 x0 x1 x2 x3 b0 b1 b2 b3 := ⟨_, rfl⟩
  have HCS := Lib.hid hcs
  have HDS := Lib.hid hds
  show Calls Tryd.prog 20 #[.agg (Value.slice A t.nodes.length c :: .int .u32 (t.lastGen : Int) :: .int .u32 (t.boot : Int) :: .int .u32 (t.count : Int) :: ses12 x0 x1 x2 x3 a0 a1 a2 a3).toArray, .agg (Value.slice B t.nodes.length d :: .int .u32 (t.lastGen : Int) :: .int .u32 (t.boot : Int) :: .int .u32 (t.count : Int) :: ses12 x0 x1 x2 x3 b0 b1 b2 b3).toArray] w _
  rw [← hcs, ← hds]
  have HSA := Lib.hid (show ∀ j v, (ses12 x0 x1 x2 x3 a0 a1 a2 a3)[j]? = some v → cs[4 + j]? = some v from fun j v h => by rw [hcs, Nat.add_comm]; exact h)
  have HSB := Lib.hid (show ∀ j v, (ses12 x0 x1 x2 x3 b0 b1 b2 b3)[j]? = some v → ds[4 + j]? = some v from fun j v h => by rw [hds, Nat.add_comm]; exact h)
  clear hcs hds
  go_enter Tryd.func20, Tryd.ntmps20
  go_wp2_with (first
    | ((with_reducible show wpList _ _ _ _ _ w); refine wpList_boxS rfl 30 _ rfl cs rfl ?_; intro g1 w1 hk1 hb1 hg1; go_frame; have X1 := Lib.hid hk1; have Y1 := Lib.hid hb1; clear hk1 hb1 hg1)
    | ((with_reducible show wpList _ _ _ _ _ w1); refine wpList_boxS rfl 30 _ rfl ds rfl ?_; intro g2 w2 hk1 hb1 hg1; go_frame; have X2 := Lib.hid hk1; have X12 := Lib.hid (X1.out.below hb1 X1.out.lt); have Y2 := Lib.hid (below_chain Y1.out hb1); clear hk1 hb1 hg1)
    | ((with_reducible show wpList _ _ _ _ _ w2); refine wpList_loadA (by rfl) 28 _ rfl g1 4 rfl (ses12 x0 x1 x2 x3 a0 a1 a2 a3) (fun j v hv => X12.out.cell (4 + j) (by simpa using HSA.out j v hv)) _ Tryd.underlying28 rfl infoSes4 ?_; go_frame)
    | fail)
  go_loopw [5, 6, 9] (fun _ _ j wr => ∃ k : Nat, j = .int .i64 k ∧ k ≤ 4 ∧ Below w2.heap.size w2 wr) (fun _ _ j _ => 4 - (RowKit.intOf j).toNat)
  case atStart => exact ⟨0, rfl, Nat.zero_le _, Below.refl _ _⟩
  case round =>
    obtain ⟨k, rfl, hk4, hB⟩ := hrel
    have HB := Lib.hid hB
    clear hB
    have hk : k = 0 ∨ k = 1 ∨ k = 2 ∨ k = 3 ∨ k = 4 := by omega
    rcases hk with rfl | rfl | rfl | rfl | rfl
    · have hidx := idx_ses0 x0 x1 x2 x3 a0 a1 a2 a3 wr
      go_wp2_with (first
        | ((with_reducible show wpList _ _ _ _ _ wr); refine wpList_allocS rfl 27 rfl sesZ sesZero ?_; intro g6 w3 hk1 hb1 hg1; go_frame; have C3 := Lib.hid hk1; have B3 := Lib.hid hb1; have G3 := Lib.hid hg1; clear hk1 hb1 hg1)
        | ((with_reducible show wpList _ _ _ _ _ w3); refine wpList_storeS rfl 27 _ _ rfl g6 rfl (sesC x0 a0) sesZ rfl C3.out rfl (by intro q hq; simp [sesC] at hq; rcases hq with rfl | rfl | rfl; rfl; rfl; exact H0.out.1.one) infoSesT ?_; intro w4 hk2 ht2; go_frame; have C4 := Lib.hid hk2; have B4 := Lib.hid (show Below wr.heap.size wr w4 from below_turn B3.out ht2 B3.out.size G3.out); clear hk2 ht2)
        | fail)
      clear hidx
      have Y4 := Lib.hid (below_chain Y2.out (below_chain HB.out B4.out))
      have X24 := Lib.hid (X2.out.below (below_chain HB.out B4.out) X2.out.lt)
      refine wp_region_V [] (fun u => Below w4.heap.size w4 u) hmix ((Below.refl _ _).drew) ?_
      change wpAnyV _ _ _ _ _ _ _ _ _
      refine wpAnyV_take (i := 0) (v := .agg (sesC x0 a0).toArray) 12 (kept_below _) rfl (by kernel_rfl) (by kernel_rfl) (fun _ _ _ h => h) (fun _ h => h) (DoesV.loadT (by rfl) 27 _ rfl g6 0 rfl (sesC x0 a0) (fun w9 hS => At.whole (C4.out.below hS C4.out.lt)) _ Tryd.underlying27 rfl infoSesT) ?_
      try simp only [nrm, Act.put]
      refine wpAnyV_take (i := 1) (v := .int .i64 ((0 : Nat) : Int)) 12 (kept_below _) rfl (by kernel_rfl) (by kernel_rfl) (fun _ _ _ h => h) (fun _ h => h) (DoesV.reads (by rfl) fun w9 hS => by go_simp) ?_
      try simp only [nrm, Act.put]
      refine wpAnyV_take (i := 2) (v := .pointer (some ⟨g2, 4, none⟩)) 12 (kept_below _) rfl (by kernel_rfl) (by kernel_rfl) (fun _ _ _ h => h) (fun _ h => h) (DoesV.reads (by rfl) fun w9 hS => by go_simp) ?_
      try simp only [nrm, Act.put]
      refine wpAnyV_take (i := 3) (v := .pointer (some ⟨g2, 4, none⟩)) 12 (kept_below _) rfl (by kernel_rfl) (by kernel_rfl) (fun _ _ _ h => h) (fun _ h => h) (DoesV.reads (by rfl) fun w9 hS => by go_simp) ?_
      try simp only [nrm, Act.put]
      refine wpAnyV_take (i := 4) (v := .agg (sesC x0 b0).toArray) 12 (kept_below _) rfl (by kernel_rfl) (by kernel_rfl) (fun _ _ _ h => h) (fun _ h => h) (DoesV.loadT (by rfl) 27 _ rfl g2 4 rfl (sesC x0 b0) (fun w9 hS j v hv => (X24.out.below hS X24.out.lt).cell (4 + j) (by have h9 := HSB.out (0 + j) v (ses_sub0 x0 x1 x2 x3 b0 b1 b2 b3 j v hv); rw [← Nat.add_assoc] at h9; simpa using h9)) _ Tryd.underlying27 rfl infoSesT) ?_
      try simp only [nrm, Act.put]
      refine wpAnyV_take (i := 5) (v := .bool true) 12 (kept_below _) rfl (by kernel_rfl) (by kernel_rfl) (fun _ _ _ h => h) (fun _ h => h) (DoesV.calls 39 #[.agg (sesC x0 a0).toArray, .agg (sesC x0 b0).toArray] (by rfl) (fun w9 hS => by go_simp) (fun w9 hS => isSameSession_v x0 a0 b0 F G w9 (H0.out.1.below (below_chain Y4.out hS)) (H0.out.2.below (below_chain Y4.out hS)))) ?_
      try simp only [nrm, Act.put]
      refine wpAnyV_take (i := 6) (v := .bool false) 12 (kept_below _) rfl (by kernel_rfl) (by kernel_rfl) (fun _ _ _ h => h) (fun _ h => h) (DoesV.reads (by rfl) fun w9 hS => by go_simp) ?_
      try simp only [nrm, Act.put]
      refine wpAnyV_done (by kernel_rfl) (fun wz hz => ?_) _
      have BZ := Lib.hid (below_chain HB.out (below_chain B4.out hz))
      clear hz
      go_wp2_with fail
      go_roundw
      case rel => exact ⟨1, by go_num, by omega, BZ.out⟩
      case measure => simp [RowKit.intOf]
    · have hidx := idx_ses1 x0 x1 x2 x3 a0 a1 a2 a3 wr
      go_wp2_with (first
        | ((with_reducible show wpList _ _ _ _ _ wr); refine wpList_allocS rfl 27 rfl sesZ sesZero ?_; intro g6 w3 hk1 hb1 hg1; go_frame; have C3 := Lib.hid hk1; have B3 := Lib.hid hb1; have G3 := Lib.hid hg1; clear hk1 hb1 hg1)
        | ((with_reducible show wpList _ _ _ _ _ w3); refine wpList_storeS rfl 27 _ _ rfl g6 rfl (sesC x1 a1) sesZ rfl C3.out rfl (by intro q hq; simp [sesC] at hq; rcases hq with rfl | rfl | rfl; rfl; rfl; exact H1.out.1.one) infoSesT ?_; intro w4 hk2 ht2; go_frame; have C4 := Lib.hid hk2; have B4 := Lib.hid (show Below wr.heap.size wr w4 from below_turn B3.out ht2 B3.out.size G3.out); clear hk2 ht2)
        | fail)
      clear hidx
      have Y4 := Lib.hid (below_chain Y2.out (below_chain HB.out B4.out))
      have X24 := Lib.hid (X2.out.below (below_chain HB.out B4.out) X2.out.lt)
      refine wp_region_V [] (fun u => Below w4.heap.size w4 u) hmix ((Below.refl _ _).drew) ?_
      change wpAnyV _ _ _ _ _ _ _ _ _
      refine wpAnyV_take (i := 0) (v := .agg (sesC x1 a1).toArray) 12 (kept_below _) rfl (by kernel_rfl) (by kernel_rfl) (fun _ _ _ h => h) (fun _ h => h) (DoesV.loadT (by rfl) 27 _ rfl g6 0 rfl (sesC x1 a1) (fun w9 hS => At.whole (C4.out.below hS C4.out.lt)) _ Tryd.underlying27 rfl infoSesT) ?_
      try simp only [nrm, Act.put]
      refine wpAnyV_take (i := 1) (v := .int .i64 ((1 : Nat) : Int)) 12 (kept_below _) rfl (by kernel_rfl) (by kernel_rfl) (fun _ _ _ h => h) (fun _ h => h) (DoesV.reads (by rfl) fun w9 hS => by go_simp) ?_
      try simp only [nrm, Act.put]
      refine wpAnyV_take (i := 2) (v := .pointer (some ⟨g2, 4, none⟩)) 12 (kept_below _) rfl (by kernel_rfl) (by kernel_rfl) (fun _ _ _ h => h) (fun _ h => h) (DoesV.reads (by rfl) fun w9 hS => by go_simp) ?_
      try simp only [nrm, Act.put]
      refine wpAnyV_take (i := 3) (v := .pointer (some ⟨g2, 7, none⟩)) 12 (kept_below _) rfl (by kernel_rfl) (by kernel_rfl) (fun _ _ _ h => h) (fun _ h => h) (DoesV.reads (by rfl) fun w9 hS => by go_simp) ?_
      try simp only [nrm, Act.put]
      refine wpAnyV_take (i := 4) (v := .agg (sesC x1 b1).toArray) 12 (kept_below _) rfl (by kernel_rfl) (by kernel_rfl) (fun _ _ _ h => h) (fun _ h => h) (DoesV.loadT (by rfl) 27 _ rfl g2 7 rfl (sesC x1 b1) (fun w9 hS j v hv => (X24.out.below hS X24.out.lt).cell (7 + j) (by have h9 := HSB.out (3 + j) v (ses_sub1 x0 x1 x2 x3 b0 b1 b2 b3 j v hv); rw [← Nat.add_assoc] at h9; simpa using h9)) _ Tryd.underlying27 rfl infoSesT) ?_
      try simp only [nrm, Act.put]
      refine wpAnyV_take (i := 5) (v := .bool true) 12 (kept_below _) rfl (by kernel_rfl) (by kernel_rfl) (fun _ _ _ h => h) (fun _ h => h) (DoesV.calls 39 #[.agg (sesC x1 a1).toArray, .agg (sesC x1 b1).toArray] (by rfl) (fun w9 hS => by go_simp) (fun w9 hS => isSameSession_v x1 a1 b1 F G w9 (H1.out.1.below (below_chain Y4.out hS)) (H1.out.2.below (below_chain Y4.out hS)))) ?_
      try simp only [nrm, Act.put]
      refine wpAnyV_take (i := 6) (v := .bool false) 12 (kept_below _) rfl (by kernel_rfl) (by kernel_rfl) (fun _ _ _ h => h) (fun _ h => h) (DoesV.reads (by rfl) fun w9 hS => by go_simp) ?_
      try simp only [nrm, Act.put]
      refine wpAnyV_done (by kernel_rfl) (fun wz hz => ?_) _
      have BZ := Lib.hid (below_chain HB.out (below_chain B4.out hz))
      clear hz
      go_wp2_with fail
      go_roundw
      case rel => exact ⟨2, by go_num, by omega, BZ.out⟩
      case measure => simp [RowKit.intOf]
    · have hidx := idx_ses2 x0 x1 x2 x3 a0 a1 a2 a3 wr
      go_wp2_with (first
        | ((with_reducible show wpList _ _ _ _ _ wr); refine wpList_allocS rfl 27 rfl sesZ sesZero ?_; intro g6 w3 hk1 hb1 hg1; go_frame; have C3 := Lib.hid hk1; have B3 := Lib.hid hb1; have G3 := Lib.hid hg1; clear hk1 hb1 hg1)
        | ((with_reducible show wpList _ _ _ _ _ w3); refine wpList_storeS rfl 27 _ _ rfl g6 rfl (sesC x2 a2) sesZ rfl C3.out rfl (by intro q hq; simp [sesC] at hq; rcases hq with rfl | rfl | rfl; rfl; rfl; exact H2.out.1.one) infoSesT ?_; intro w4 hk2 ht2; go_frame; have C4 := Lib.hid hk2; have B4 := Lib.hid (show Below wr.heap.size wr w4 from below_turn B3.out ht2 B3.out.size G3.out); clear hk2 ht2)
        | fail)
      clear hidx
      have Y4 := Lib.hid (below_chain Y2.out (below_chain HB.out B4.out))
      have X24 := Lib.hid (X2.out.below (below_chain HB.out B4.out) X2.out.lt)
      refine wp_region_V [] (fun u => Below w4.heap.size w4 u) hmix ((Below.refl _ _).drew) ?_
      change wpAnyV _ _ _ _ _ _ _ _ _
      refine wpAnyV_take (i := 0) (v := .agg (sesC x2 a2).toArray) 12 (kept_below _) rfl (by kernel_rfl) (by kernel_rfl) (fun _ _ _ h => h) (fun _ h => h) (DoesV.loadT (by rfl) 27 _ rfl g6 0 rfl (sesC x2 a2) (fun w9 hS => At.whole (C4.out.below hS C4.out.lt)) _ Tryd.underlying27 rfl infoSesT) ?_
      try simp only [nrm, Act.put]
      refine wpAnyV_take (i := 1) (v := .int .i64 ((2 : Nat) : Int)) 12 (kept_below _) rfl (by kernel_rfl) (by kernel_rfl) (fun _ _ _ h => h) (fun _ h => h) (DoesV.reads (by rfl) fun w9 hS => by go_simp) ?_
      try simp only [nrm, Act.put]
      refine wpAnyV_take (i := 2) (v := .pointer (some ⟨g2, 4, none⟩)) 12 (kept_below _) rfl (by kernel_rfl) (by kernel_rfl) (fun _ _ _ h => h) (fun _ h => h) (DoesV.reads (by rfl) fun w9 hS => by go_simp) ?_
      try simp only [nrm, Act.put]
      refine wpAnyV_take (i := 3) (v := .pointer (some ⟨g2, 10, none⟩)) 12 (kept_below _) rfl (by kernel_rfl) (by kernel_rfl) (fun _ _ _ h => h) (fun _ h => h) (DoesV.reads (by rfl) fun w9 hS => by go_simp) ?_
      try simp only [nrm, Act.put]
      refine wpAnyV_take (i := 4) (v := .agg (sesC x2 b2).toArray) 12 (kept_below _) rfl (by kernel_rfl) (by kernel_rfl) (fun _ _ _ h => h) (fun _ h => h) (DoesV.loadT (by rfl) 27 _ rfl g2 10 rfl (sesC x2 b2) (fun w9 hS j v hv => (X24.out.below hS X24.out.lt).cell (10 + j) (by have h9 := HSB.out (6 + j) v (ses_sub2 x0 x1 x2 x3 b0 b1 b2 b3 j v hv); rw [← Nat.add_assoc] at h9; simpa using h9)) _ Tryd.underlying27 rfl infoSesT) ?_
      try simp only [nrm, Act.put]
      refine wpAnyV_take (i := 5) (v := .bool true) 12 (kept_below _) rfl (by kernel_rfl) (by kernel_rfl) (fun _ _ _ h => h) (fun _ h => h) (DoesV.calls 39 #[.agg (sesC x2 a2).toArray, .agg (sesC x2 b2).toArray] (by rfl) (fun w9 hS => by go_simp) (fun w9 hS => isSameSession_v x2 a2 b2 F G w9 (H2.out.1.below (below_chain Y4.out hS)) (H2.out.2.below (below_chain Y4.out hS)))) ?_
      try simp only [nrm, Act.put]
      refine wpAnyV_take (i := 6) (v := .bool false) 12 (kept_below _) rfl (by kernel_rfl) (by kernel_rfl) (fun _ _ _ h => h) (fun _ h => h) (DoesV.reads (by rfl) fun w9 hS => by go_simp) ?_
      try simp only [nrm, Act.put]
      refine wpAnyV_done (by kernel_rfl) (fun wz hz => ?_) _
      have BZ := Lib.hid (below_chain HB.out (below_chain B4.out hz))
      clear hz
      go_wp2_with fail
      go_roundw
      case rel => exact ⟨3, by go_num, by omega, BZ.out⟩
      case measure => simp [RowKit.intOf]
    · have hidx := idx_ses3 x0 x1 x2 x3 a0 a1 a2 a3 wr
      go_wp2_with (first
        | ((with_reducible show wpList _ _ _ _ _ wr); refine wpList_allocS rfl 27 rfl sesZ sesZero ?_; intro g6 w3 hk1 hb1 hg1; go_frame; have C3 := Lib.hid hk1; have B3 := Lib.hid hb1; have G3 := Lib.hid hg1; clear hk1 hb1 hg1)
        | ((with_reducible show wpList _ _ _ _ _ w3); refine wpList_storeS rfl 27 _ _ rfl g6 rfl (sesC x3 a3) sesZ rfl C3.out rfl (by intro q hq; simp [sesC] at hq; rcases hq with rfl | rfl | rfl; rfl; rfl; exact H3.out.1.one) infoSesT ?_; intro w4 hk2 ht2; go_frame; have C4 := Lib.hid hk2; have B4 := Lib.hid (show Below wr.heap.size wr w4 from below_turn B3.out ht2 B3.out.size G3.out); clear hk2 ht2)
        | fail)
      clear hidx
      have Y4 := Lib.hid (below_chain Y2.out (below_chain HB.out B4.out))
      have X24 := Lib.hid (X2.out.below (below_chain HB.out B4.out) X2.out.lt)
      refine wp_region_V [] (fun u => Below w4.heap.size w4 u) hmix ((Below.refl _ _).drew) ?_
      change wpAnyV _ _ _ _ _ _ _ _ _
      refine wpAnyV_take (i := 0) (v := .agg (sesC x3 a3).toArray) 12 (kept_below _) rfl (by kernel_rfl) (by kernel_rfl) (fun _ _ _ h => h) (fun _ h => h) (DoesV.loadT (by rfl) 27 _ rfl g6 0 rfl (sesC x3 a3) (fun w9 hS => At.whole (C4.out.below hS C4.out.lt)) _ Tryd.underlying27 rfl infoSesT) ?_
      try simp only [nrm, Act.put]
      refine wpAnyV_take (i := 1) (v := .int .i64 ((3 : Nat) : Int)) 12 (kept_below _) rfl (by kernel_rfl) (by kernel_rfl) (fun _ _ _ h => h) (fun _ h => h) (DoesV.reads (by rfl) fun w9 hS => by go_simp) ?_
      try simp only [nrm, Act.put]
      refine wpAnyV_take (i := 2) (v := .pointer (some ⟨g2, 4, none⟩)) 12 (kept_below _) rfl (by kernel_rfl) (by kernel_rfl) (fun _ _ _ h => h) (fun _ h => h) (DoesV.reads (by rfl) fun w9 hS => by go_simp) ?_
      try simp only [nrm, Act.put]
      refine wpAnyV_take (i := 3) (v := .pointer (some ⟨g2, 13, none⟩)) 12 (kept_below _) rfl (by kernel_rfl) (by kernel_rfl) (fun _ _ _ h => h) (fun _ h => h) (DoesV.reads (by rfl) fun w9 hS => by go_simp) ?_
      try simp only [nrm, Act.put]
      refine wpAnyV_take (i := 4) (v := .agg (sesC x3 b3).toArray) 12 (kept_below _) rfl (by kernel_rfl) (by kernel_rfl) (fun _ _ _ h => h) (fun _ h => h) (DoesV.loadT (by rfl) 27 _ rfl g2 13 rfl (sesC x3 b3) (fun w9 hS j v hv => (X24.out.below hS X24.out.lt).cell (13 + j) (by have h9 := HSB.out (9 + j) v (ses_sub3 x0 x1 x2 x3 b0 b1 b2 b3 j v hv); rw [← Nat.add_assoc] at h9; simpa using h9)) _ Tryd.underlying27 rfl infoSesT) ?_
      try simp only [nrm, Act.put]
      refine wpAnyV_take (i := 5) (v := .bool true) 12 (kept_below _) rfl (by kernel_rfl) (by kernel_rfl) (fun _ _ _ h => h) (fun _ h => h) (DoesV.calls 39 #[.agg (sesC x3 a3).toArray, .agg (sesC x3 b3).toArray] (by rfl) (fun w9 hS => by go_simp) (fun w9 hS => isSameSession_v x3 a3 b3 F G w9 (H3.out.1.below (below_chain Y4.out hS)) (H3.out.2.below (below_chain Y4.out hS)))) ?_
      try simp only [nrm, Act.put]
      refine wpAnyV_take (i := 6) (v := .bool false) 12 (kept_below _) rfl (by kernel_rfl) (by kernel_rfl) (fun _ _ _ h => h) (fun _ h => h) (DoesV.reads (by rfl) fun w9 hS => by go_simp) ?_
      try simp only [nrm, Act.put]
      refine wpAnyV_done (by kernel_rfl) (fun wz hz => ?_) _
      have BZ := Lib.hid (below_chain HB.out (below_chain B4.out hz))
      clear hz
      go_wp2_with fail
      go_roundw
      case rel => exact ⟨4, by go_num, by omega, BZ.out⟩
      case measure => simp [RowKit.intOf]
    · have X1r := Lib.hid (X12.out.below HB.out X12.out.lt)
      have X2r := Lib.hid (X2.out.below HB.out X2.out.lt)
      have q10 : wr.cell? ⟨g1, 0, none⟩ = some (.slice A t.nodes.length c) := X1r.out.cell 0 (by rw [HCS.out]; rfl)
      have q11 : wr.cell? ⟨g1, 1, none⟩ = some (.int .u32 (t.lastGen : Int)) := X1r.out.cell 1 (by rw [HCS.out]; rfl)
      have q12 : wr.cell? ⟨g1, 2, none⟩ = some (.int .u32 (t.boot : Int)) := X1r.out.cell 2 (by rw [HCS.out]; rfl)
      have q13 : wr.cell? ⟨g1, 3, none⟩ = some (.int .u32 (t.count : Int)) := X1r.out.cell 3 (by rw [HCS.out]; rfl)
      have q20 : wr.cell? ⟨g2, 0, none⟩ = some (.slice B t.nodes.length d) := X2r.out.cell 0 (by rw [HDS.out]; rfl)
      have q21 : wr.cell? ⟨g2, 1, none⟩ = some (.int .u32 (t.lastGen : Int)) := X2r.out.cell 1 (by rw [HDS.out]; rfl)
      have q22 : wr.cell? ⟨g2, 2, none⟩ = some (.int .u32 (t.boot : Int)) := X2r.out.cell 2 (by rw [HDS.out]; rfl)
      have q23 : wr.cell? ⟨g2, 3, none⟩ = some (.int .u32 (t.count : Int)) := X2r.out.cell 3 (by rw [HDS.out]; rfl)
      have Yr := Lib.hid (below_chain Y2.out HB.out)
      go_wp2_with fail
      refine (EqualNd_v t.nodes A B c d F G wr (by have := HM.out.many; omega) (fun n hn => ⟨by have := (HM.out.ok n hn).many; omega, by have := (HM.out.ok n hn).size; omega⟩) (RA.out.below Yr.out) (RB.out.below Yr.out)).mono ?_
      rintro e w5 ⟨rfl, hb⟩
      have B5 := Lib.hid (below_chain Yr.out hb)
      clear hb
      go_wp2_with fail
      go_ret
      exact ⟨by first | rfl | simp, B5.out⟩

end Go.Proofs.YtdhlejhflkfoaaaDoor
/- Layer 14's laws: trees that the document tells of; whether a tree is more than is asked of. -/
namespace Go.Proofs.YtdhlejhflkfoaaaDoor
open Go.RowKit Go.Shelf
set_option linter.unusedVariables false
set_option maxRecDepth 100000
set_option linter.unusedSimpArgs false

section
variable {P : Program} {md : Region.Mode} {ops : Array Oper} {Q : Exit → Act → World → Prop}
/-- the only one that may come up, guarded, and wanted -/
theorem wpAnyV_onlyG {bs : List Nat} {S : World → Prop} {i : Nat} {o : Oper} {fuel : Nat} {listed : Array Bool} {a : Act} (hi : ops[i]? = some o) (hr : Region.ready md ops listed = [i]) (hw : Region.wanted o (yielded ops a.tmps) = true)
    (h : ∀ w, S w → Oper.wp P o a w (fun a' w' => ∃ (S' : World → Prop), S' w' ∧ Kept S' ∧ (i ∉ bs → ∀ u, S' u → S u) ∧ wpAnyV P md ops Q bs S' fuel (listed.setIfInBounds i true) a') Q) : wpAnyV P md ops Q bs S (fuel + 1) listed a :=
  ⟨fun e => (by rw [hr] at e; cases e), fun j hj w hS => by
    rw [hr, List.mem_singleton] at hj
    subst hj
    unfold wpOp
    simp only [hi]
    rw [if_pos hw]
    exact .inl (h w hS)⟩
end
/-- a whole variable, loaded by an operation that bears a guard and is wanted -/
theorem wpList_loadG {P : Program} {w : World} {ops : Array Oper} {rest : List Oper} {o : Oper} {a : Act} {Q : Exit → Act → World → Prop} (hw : Region.wanted o (yielded ops a.tmps) = true) (t : TypeId) (x : Operand) (ho : o.op = .load t x) (g : Nat) (hx : a.eval x = .pointer (some ⟨g, 0, none⟩)) (cs : List Value) (hg : Cs w g t cs.toArray) (d : TypeDesc) (hu : P.underlying t = some d)
    (hd : (match d with | .struct _ | .array _ _ => true | _ => false) = true) (hi : (P.info? t).map (·.size) = some cs.length) (h : wpList P ops Q rest (a.put o.dst (.agg cs.toArray)) w) : wpList P ops Q (o :: rest) a w :=
  BigFrame.wpList_want hw fun K hK => wp_load_agg t x ho g 0 hx cs (At.whole hg) d hu hd hi (hK _ _ h)
theorem whole_new : WholeT newT := ⟨may_new, fun s hs => by
  have : s = (0, 0, []) := by simpa [newT] using hs
  subst this
  exact ⟨by decide, fun _ => ⟨rfl, rfl⟩⟩⟩
theorem rng_new : RngT newT := ⟨by decide, by decide, by decide, rfl⟩
theorem rows_new : (rowsT newT).length = 2 ∧ (rowsT newT)[0]?.map (·.1) = some [110, 0, 0, 0, 1] ∧ (rowsT newT)[1]?.map (·.1) = some [116] := by decide
theorem row_key {w : World} {F : Nat → Prop} {v : Value} {l : List Rw} {j : Nat} {k : Key} (h : LsW rowE w F v l) (hk : l[j]?.map (·.1) = some k) : ∃ b off c, v = .slice (some ⟨b, off, none⟩) l.length c ∧ w.cell? ⟨b, off + j * 2, none⟩ = some (sv k) := by
  obtain ⟨A, c, rfl, hr, -⟩ := h
  have hj : j < l.length := by
    rcases Nat.lt_or_ge j l.length with h | h
    · exact h
    · rw [List.getElem?_eq_none h] at hk; cases hk
  obtain ⟨b, off, A', c', rfl, h1, -⟩ := row_at hr j hj
  rw [List.getElem?_eq_getElem hj] at hk
  simp at hk
  rw [hk] at h1
  exact ⟨b, off, c, rfl, h1⟩
theorem rd_lit {w : World} {g : Nat} {l : List UInt8} (h : Cs w g 5 (cellsOf l).toArray) : Rd w (some ⟨g, 0, none⟩) l := rd_cs h rfl
set_option maxHeartbeats 16000000 in
theorem lives14_v (w : World) (hT : Tabs w) : Calls Tryd.prog 7 #[] w fun e w' => e = .returned (.bool true) ∧ Below w.heap.size w w' := by
  have hmix : Tryd.prog.follows .mixedOrders = true := by kernel_rfl
  have HT := Lib.hid hT
  clear hT
  go_enter Tryd.func7, Tryd.ntmps7
  go_wp2_with fail
  refine (New_v w).mono ?_
  rintro e w1 ⟨cs, rfl, htr, hb⟩
  have TR := Lib.hid htr
  have HCL := Lib.hid htr.len
  have HO1 := Lib.hid htr.one
  have B1 := Lib.hid hb
  clear htr hb
  go_wp2_with (first
    | ((with_reducible show wpList _ _ _ _ _ w1); refine wpList_allocS rfl 30 rfl treeZ treeZero ?_; intro g1 w2 hk1 hb1 hg1; go_frame; have C2 := Lib.hid hk1; have B12 := Lib.hid hb1; have G2 := Lib.hid hg1; clear hk1 hb1 hg1)
    | ((with_reducible show wpList _ _ _ _ _ w2); refine wpList_storeS rfl 30 _ _ rfl g1 rfl cs treeZ rfl C2.out (by rw [HCL.out]; rfl) HO1.out (by rw [HCL.out]; exact infoTree) ?_; intro w3 hk2 ht2; go_frame; have C3 := Lib.hid hk2; have B13 := Lib.hid (below_turn B12.out ht2 B12.out.size G2.out); clear hk2 ht2)
    | ((with_reducible show wpList _ _ _ _ _ w3); refine wpList_loadS rfl 30 _ rfl g1 rfl cs C3.out _ Tryd.underlying30 rfl (by rw [HCL.out]; exact infoTree) ?_; go_frame)
    | fail)
  have B3 := Lib.hid (below_chain B1.out B13.out)
  have TR3 := Lib.hid (TR.out.below B13.out)
  refine (Rows_v newT cs _ w3 (HT.out.below B3.out) TR3.out).mono ?_
  rintro e w4 ⟨hr, hb⟩
  have B4 := Lib.hid (below_chain B3.out hb)
  have TR4 := Lib.hid (TR3.out.below hb)
  have C4 := Lib.hid (C3.out.below hb C3.out.lt)
  clear hb
  rcases hr with ⟨-, v4, rfl, ho⟩ | ⟨hw, -⟩
  rotate_left
  · exact absurd whole_new hw
  obtain ⟨rl, hrl⟩ : ∃ rl, rl = rowsT newT := ⟨_, rfl⟩
  rw [← hrl] at ho
  have HRN := Lib.hid (show rl.length = 2 ∧ rl[0]?.map (·.1) = some [110, 0, 0, 0, 1] ∧ rl[1]?.map (·.1) = some [116] by rw [hrl]; exact rows_new)
  have HRL := Lib.hid hrl
  have HL := Lib.hid ((OwnX.lsW ho).rowE)
  clear hrl
  obtain ⟨b, off, c, rfl, k0⟩ := row_key HL.out HRN.out.2.1
  obtain ⟨b', off', c', e', k1⟩ := row_key HL.out HRN.out.2.2
  cases e'
  rw [Nat.zero_mul, Nat.add_zero] at k0
  rw [Nat.one_mul] at k1
  have K0 := Lib.hid k0
  have K1 := Lib.hid k1
  have HLL := Lib.hid (show LsW rowE w4 (w3.heap.size ≤ ·) (.slice (some ⟨b, off, none⟩) 2 c) rl from by have := HL.out; rwa [HRN.out.1] at this)
  rw [HRN.out.1]
  clear k0 k1 ho
  go_wp2_with fail
  refine wp_region_V [] (fun z => Below w4.heap.size w4 z) hmix ((Below.refl _ _).drew) ?_
  change wpAnyV _ _ _ _ _ _ _ _ _
  refine wpAnyV_take (i := 0) (v := .int .i64 0) 20 (kept_below _) rfl (by kernel_rfl) (by kernel_rfl) (fun _ _ _ h => h) (fun _ h => h) (DoesV.reads (by rfl) fun w9 hS => by go_simp) ?_
  try simp only [nrm, Act.put]
  refine wpAnyV_take (i := 1) (v := .bool false) 20 (kept_below _) rfl (by kernel_rfl) (by kernel_rfl) (fun _ _ _ h => h) (fun _ h => h) (DoesV.reads (by rfl) fun w9 hS => by go_simp) ?_
  try simp only [nrm, Act.put]
  refine wpAnyV_take (i := 2) (v := .bool false) 20 (kept_below _) rfl (by kernel_rfl) (by kernel_rfl) (fun _ _ _ h => h) (fun _ h => h) (DoesV.reads (by rfl) fun w9 hS => by go_simp) ?_
  try simp only [nrm, Act.put]
  refine wpAnyV_take (i := 3) (v := .slice (some ⟨b, off, none⟩) 2 c) 20 (kept_below _) rfl (by kernel_rfl) (by kernel_rfl) (fun _ _ _ h => h) (fun _ h => h) (DoesV.reads (by rfl) fun w9 hS => by go_simp) ?_
  try simp only [nrm, Act.put]
  refine wpAnyV_take (i := 4) (v := .int .i64 2) 20 (kept_below _) rfl (by kernel_rfl) (by kernel_rfl) (fun _ _ _ h => h) (fun _ h => h) (DoesV.reads (by rfl) fun w9 hS => by go_simp) ?_
  try simp only [nrm, Act.put]
  refine wpAnyV_take (i := 5) (v := .bool false) 20 (kept_below _) rfl (by kernel_rfl) (by kernel_rfl) (fun _ _ _ h => h) (fun _ h => h) (DoesV.reads (by rfl) fun w9 hS => by go_simp) ?_
  try simp only [nrm, Act.put]
  refine wpAnyV_take (i := 6) (v := .bool false) 20 (kept_below _) rfl (by kernel_rfl) (by kernel_rfl) (fun _ _ _ h => h) (fun _ h => h) (DoesV.reads (by rfl) fun w9 hS => by go_simp) ?_
  try simp only [nrm, Act.put]
  refine wpAnyV_take (i := 7) (v := .bool false) 20 (kept_below _) rfl (by kernel_rfl) (by kernel_rfl) (fun _ _ _ h => h) (fun _ h => h) (DoesV.reads (by rfl) fun w9 hS => by go_simp) ?_
  try simp only [nrm, Act.put]
  refine wpAnyV_take (i := 8) (v := .slice (some ⟨b, off, none⟩) 2 c) 20 (kept_below _) rfl (by kernel_rfl) (by kernel_rfl) (fun _ _ _ h => h) (fun _ h => h) (DoesV.reads (by rfl) fun w9 hS => by go_simp) ?_
  try simp only [nrm, Act.put]
  refine wpAnyV_take (i := 9) (v := .pointer (some ⟨b, off, none⟩)) 20 (kept_below _) rfl (by kernel_rfl) (by kernel_rfl) (fun _ _ _ h => h) (fun _ h => h) (DoesV.reads (by rfl) fun w9 hS => by go_simp) ?_
  try simp only [nrm, Act.put]
  refine wpAnyV_take (i := 10) (v := .pointer (some ⟨b, off, none⟩)) 20 (kept_below _) rfl (by kernel_rfl) (by kernel_rfl) (fun _ _ _ h => h) (fun _ h => h) (DoesV.reads (by rfl) fun w9 hS => by go_simp) ?_
  try simp only [nrm, Act.put]
  refine wpAnyV_take (i := 11) (v := sv [110, 0, 0, 0, 1]) 20 (kept_below _) rfl (by kernel_rfl) (by kernel_rfl) (fun _ _ _ h => h) (fun _ h => h) (DoesV.reads (by rfl) fun w9 hS => by have q9 : w9.cell? ⟨b, off, none⟩ = some (sv [110, 0, 0, 0, 1]) := cell_b hS K0.out; go_simp) ?_
  try simp only [nrm, Act.put]
  refine wpAnyV_onlyG (i := 12) rfl (by kernel_rfl) (by rfl) (fun u hS => wp_of_run2 (v := .slice (some ⟨u.heap.size, 0, none⟩) 5 5) (w' := u.alloc (.cells (cellsOf [110, 0, 0, 0, 1]).toArray 5)) (by go_simp; try rfl) ⟨(fun z => ((fun z => Below w4.heap.size w4 z)) z ∧ Cs z u.heap.size 5 (cellsOf [110, 0, 0, 0, 1]).toArray), ⟨(kept_below _) _ _ hS ((Below.refl _ _).alloc (Nat.le_refl _) _), Cs.new _ _ _⟩, kept_and (kept_below _) (kept_cs _ _ _), fun _ _ h => h.1, ?_⟩)
  try simp only [nrm, Act.put]
  obtain ⟨ga, hga⟩ : ∃ g, g = u.heap.size := ⟨_, rfl⟩
  rw [← hga]
  clear hga hS
  refine wpAnyV_take (i := 13) (v := sv [110, 0, 0, 0, 1]) 20 (kept_and (kept_below _) (kept_cs _ _ _)) rfl (by kernel_rfl) (by kernel_rfl) (fun _ _ _ h => h) (fun _ h => h) (DoesV.reads (by rfl) fun w9 hS => by have hcv : (convert 25 9 (.slice (some ⟨ga, 0, none⟩) 5 5)).run Tryd.prog w9 = .ok (sv [110, 0, 0, 0, 1]) w9 := conv_rd (rd_lit hS.2) 5; go_simp) ?_
  try simp only [nrm, Act.put]
  refine wpAnyV_take (i := 14) (v := .bool false) 20 (kept_and (kept_below _) (kept_cs _ _ _)) rfl (by kernel_rfl) (by kernel_rfl) (fun _ _ _ h => h) (fun _ h => h) (DoesV.reads (by rfl) fun w9 hS => by unfold sv; go_simp) ?_
  try simp only [nrm, Act.put]
  refine wpAnyV_take (i := 15) (v := .bool false) 20 (kept_and (kept_below _) (kept_cs _ _ _)) rfl (by kernel_rfl) (by kernel_rfl) (fun _ _ _ h => h) (fun _ h => h) (DoesV.reads (by rfl) fun w9 hS => by go_simp) ?_
  try simp only [nrm, Act.put]
  refine wpAnyV_take (i := 16) (v := .bool false) 20 (kept_and (kept_below _) (kept_cs _ _ _)) rfl (by kernel_rfl) (by kernel_rfl) (fun _ _ _ h => h) (fun _ h => h) (DoesV.reads (by rfl) fun w9 hS => by go_simp) ?_
  try simp only [nrm, Act.put]
  refine wpAnyV_take (i := 17) (v := .slice (some ⟨b, off, none⟩) 2 c) 20 (kept_and (kept_below _) (kept_cs _ _ _)) rfl (by kernel_rfl) (by kernel_rfl) (fun _ _ _ h => h) (fun _ h => h) (DoesV.reads (by rfl) fun w9 hS => by go_simp) ?_
  try simp only [nrm, Act.put]
  refine wpAnyV_take (i := 18) (v := .pointer (some ⟨b, off + 2, none⟩)) 20 (kept_and (kept_below _) (kept_cs _ _ _)) rfl (by kernel_rfl) (by kernel_rfl) (fun _ _ _ h => h) (fun _ h => h) (DoesV.reads (by rfl) fun w9 hS => by go_simp) ?_
  try simp only [nrm, Act.put]
  refine wpAnyV_take (i := 19) (v := .pointer (some ⟨b, off + 2, none⟩)) 20 (kept_and (kept_below _) (kept_cs _ _ _)) rfl (by kernel_rfl) (by kernel_rfl) (fun _ _ _ h => h) (fun _ h => h) (DoesV.reads (by rfl) fun w9 hS => by go_simp) ?_
  try simp only [nrm, Act.put]
  refine wpAnyV_take (i := 20) (v := sv [116]) 20 (kept_and (kept_below _) (kept_cs _ _ _)) rfl (by kernel_rfl) (by kernel_rfl) (fun _ _ _ h => h) (fun _ h => h) (DoesV.reads (by rfl) fun w9 hS => by have q9 : w9.cell? ⟨b, off + 2, none⟩ = some (sv [116]) := cell_b hS.1 K1.out; go_simp) ?_
  try simp only [nrm, Act.put]
  refine wpAnyV_onlyG (i := 21) rfl (by kernel_rfl) (by rfl) (fun u hS => wp_of_run2 (v := .slice (some ⟨u.heap.size, 0, none⟩) 1 1) (w' := u.alloc (.cells (cellsOf [116]).toArray 5)) (by go_simp; try rfl) ⟨(fun z => ((fun z => ((fun z => Below w4.heap.size w4 z)) z ∧ Cs z ga 5 (cellsOf [110, 0, 0, 0, 1]).toArray)) z ∧ Cs z u.heap.size 5 (cellsOf [116]).toArray), ⟨(kept_and (kept_below _) (kept_cs _ _ _)) _ _ hS ((Below.refl _ _).alloc (Nat.le_refl _) _), Cs.new _ _ _⟩, kept_and (kept_and (kept_below _) (kept_cs _ _ _)) (kept_cs _ _ _), fun _ _ h => h.1, ?_⟩)
  try simp only [nrm, Act.put]
  obtain ⟨gb, hgb⟩ : ∃ g, g = u.heap.size := ⟨_, rfl⟩
  rw [← hgb]
  clear hgb hS
  refine wpAnyV_take (i := 22) (v := sv [116]) 20 (kept_and (kept_and (kept_below _) (kept_cs _ _ _)) (kept_cs _ _ _)) rfl (by kernel_rfl) (by kernel_rfl) (fun _ _ _ h => h) (fun _ h => h) (DoesV.reads (by rfl) fun w9 hS => by have hcv : (convert 25 9 (.slice (some ⟨gb, 0, none⟩) 1 1)).run Tryd.prog w9 = .ok (sv [116]) w9 := conv_rd (rd_lit hS.2) 1; go_simp) ?_
  try simp only [nrm, Act.put]
  refine wpAnyV_take (i := 23) (v := .bool false) 20 (kept_and (kept_and (kept_below _) (kept_cs _ _ _)) (kept_cs _ _ _)) rfl (by kernel_rfl) (by kernel_rfl) (fun _ _ _ h => h) (fun _ h => h) (DoesV.reads (by rfl) fun w9 hS => by unfold sv; go_simp) ?_
  try simp only [nrm, Act.put]
  refine wpAnyV_take (i := 24) (v := .bool false) 20 (kept_and (kept_and (kept_below _) (kept_cs _ _ _)) (kept_cs _ _ _)) rfl (by kernel_rfl) (by kernel_rfl) (fun _ _ _ h => h) (fun _ h => h) (DoesV.reads (by rfl) fun w9 hS => by go_simp) ?_
  try simp only [nrm, Act.put]
  refine wpAnyV_done (by kernel_rfl) (fun w8 hz0 => ?_) _
  have hz := hz0.1.1
  clear hz0
  have K8 := Lib.hid hz
  clear hz
  have B8 := Lib.hid (below_chain B4.out K8.out)
  have HL8 := Lib.hid (LsW.below HLL.out K8.out)
  have TR8 := Lib.hid (TR4.out.below K8.out)
  have C8 := Lib.hid (C4.out.below K8.out C4.out.lt)
  have HSM := Lib.hid (show SmallR rl from ⟨by rw [HRN.out.1]; decide, fun x hx => by rw [HRL.out] at hx; have := rows_keys hx; omega⟩)
  go_wp2_with fail
  refine (Load_k rl _ _ w8 (HT.out.below B8.out) HL8.out (by rw [HRN.out.1]; decide) HSM.out).mono ?_
  rintro e w9 ⟨hr, hb⟩
  have B9 := Lib.hid (below_chain B8.out hb)
  have TR9 := Lib.hid (TR8.out.below hb)
  have C9 := Lib.hid (C8.out.below hb C8.out.lt)
  clear hb
  rcases hr with ⟨t, hk, hw, hrt, L, ds, rfl, hlo⟩ | ⟨hno, -⟩
  rotate_left
  · exact absurd HRL.out.symm (hno newT rng_new whole_new)
  obtain rfl : newT = t := rows_one whole_new rng_new hw hk (by rw [hrt]; exact HRL.out.symm)
  have D9 := Lib.hid hlo.tr
  have HDL := Lib.hid hlo.len
  have HDO := Lib.hid hlo.tr.one
  clear hlo hw hk hrt
  go_wp2_with (first
    | ((with_reducible show wpList _ _ _ _ _ w9); refine wpList_allocS rfl 30 rfl treeZ treeZero ?_; intro g4 wa hk1 hb1 hg1; go_frame; have Ca := Lib.hid hk1; have B9a := Lib.hid hb1; have Ga := Lib.hid hg1; clear hk1 hb1 hg1)
    | ((with_reducible show wpList _ _ _ _ _ wa); refine wpList_storeS rfl 30 _ _ rfl g4 rfl ds treeZ rfl Ca.out (by rw [HDL.out]; rfl) HDO.out (by rw [HDL.out]; exact infoTree) ?_; intro wb hk2 ht2; go_frame; have Cb := Lib.hid hk2; have B9b := Lib.hid (below_turn B9a.out ht2 B9a.out.size Ga.out); clear hk2 ht2)
    | fail)
  have Bb := Lib.hid (below_chain B9.out B9b.out)
  have Tb := Lib.hid (TR9.out.below B9b.out)
  have Db := Lib.hid (D9.out.below B9b.out)
  have C1b := Lib.hid (C9.out.below B9b.out C9.out.lt)
  refine (Load_k [] _ (fun _ => False) wb (HT.out.below Bb.out) ⟨none, 0, rfl, .inl rfl, Nat.le_refl _, Nat.zero_le _, fun _ => ⟨rfl, rfl⟩⟩ (Nat.zero_le _) ⟨Nat.zero_le _, fun x hx => by cases hx⟩).mono ?_
  rintro e wc ⟨hr, hb⟩
  have Bc := Lib.hid (below_chain Bb.out hb)
  have Tc := Lib.hid (Tb.out.below hb)
  have Dc := Lib.hid (Db.out.below hb)
  have C1c := Lib.hid (C1b.out.below hb C1b.out.lt)
  have Cc := Lib.hid (Cb.out.below hb Cb.out.lt)
  clear hb
  rcases hr with ⟨t, -, -, hrt, -⟩ | ⟨-, rfl⟩
  · exact absurd (congrArg List.length hrt) (by unfold rowsT; simp)
  go_wp2_with (first
    | ((with_reducible show wpList _ _ _ _ _ wc); refine wpList_allocS rfl 30 rfl treeZ treeZero ?_; intro g6 wd hk1 hb1 hg1; go_frame; have Cd := Lib.hid hk1; have Bcd := Lib.hid hb1; have Gd := Lib.hid hg1; clear hk1 hb1 hg1)
    | ((with_reducible show wpList _ _ _ _ _ wd); refine wpList_storeS rfl 30 _ _ rfl g6 rfl treeZ treeZ rfl Cd.out rfl treeZ_one infoTree ?_; intro we hk2 ht2; go_frame; have Bce := Lib.hid (below_turn Bcd.out ht2 Bcd.out.size Gd.out); have Ce := Lib.hid (Cc.out.below Bce.out Cc.out.lt); have C1e := Lib.hid (C1c.out.below Bce.out C1c.out.lt); clear hk2 ht2)
    | ((with_reducible show wpList _ _ _ _ _ we); refine wpList_loadG (by rfl) 30 _ rfl g4 rfl ds Ce.out _ Tryd.underlying30 rfl (by rw [HDL.out]; exact infoTree) ?_; go_frame)
    | ((with_reducible show wpList _ _ _ _ _ we); refine wpList_loadG (by rfl) 30 _ rfl g1 rfl cs C1e.out _ Tryd.underlying30 rfl (by rw [HCL.out]; exact infoTree) ?_; go_frame)
    | fail)
  have Be := Lib.hid (below_chain Bc.out Bce.out)
  refine (SameR_v newT ds cs _ _ we (Dc.out.below Bce.out) (Tc.out.below Bce.out) (by decide) (by decide)).mono ?_
  rintro e wf ⟨rfl, hb⟩
  have Bf := Lib.hid (below_chain Be.out hb)
  clear hb
  go_wp2_with fail
  go_ret
  exact ⟨rfl, Bf.out⟩
/-- no more than is asked of -/
def GrT (t : Tr) : Prop := t.nodes.length ≤ 80 ∧ ∀ n ∈ t.nodes, n.names.length ≤ 60 ∧ n.data.length ≤ 5000
def GreatRet (t : Tr) (w : World) (e : Ending) (w' : World) : Prop := ∃ b, e = .returned (.bool b) ∧ (b = false → GrT t) ∧ Below w.heap.size w w'
set_option maxHeartbeats 8000000 in
theorem great_v (t : Tr) (cs : List Value) (F : Nat → Prop) (w : World) (h : TrAt w F cs t) : Calls Tryd.prog 6 #[.agg cs.toArray] w fun e w' => GreatRet t w e w' := by
  have HLN := Lib.hid h.len
  obtain ⟨nv, ss', e, ⟨A, c, rfl, hr, hlc, hcm, -⟩, -⟩ := h
  have HR := Lib.hid hr
  have C0 := Lib.hid (show cs[0]? = some (.slice A t.nodes.length c) by rw [e]; rfl)
  have il : (t.nodes.length : Int) ≤ 9223372036854775807 := by unfold maxLen at hcm; omega
  clear e hr hlc hcm
  by_cases hbig : (80 : Int) < (t.nodes.length : Int)
  · go_enter Tryd.func6, Tryd.ntmps6
    go_wp2_with (first
      | ((with_reducible show wpList _ _ _ _ _ w); refine wpList_boxS rfl 30 _ rfl cs rfl ?_; intro g1 w1 hk1 hb1 hg1; go_frame; have C1 := Lib.hid hk1; have B1 := Lib.hid hb1; have q0 : w1.cell? ⟨g1, 0, none⟩ = some (.slice A t.nodes.length c) := hk1.cell 0 (by simpa using C0.out); clear hk1 hb1 hg1)
      | fail)
    go_ret
    exact ⟨true, rfl, fun h => (by cases h), B1.out⟩
  have H80 := Lib.hid (show t.nodes.length ≤ 80 by omega)
  go_enter Tryd.func6, Tryd.ntmps6
  go_wp2_with (first
    | ((with_reducible show wpList _ _ _ _ _ w); refine wpList_boxS rfl 30 _ rfl cs rfl ?_; intro g1 w1 hk1 hb1 hg1; go_frame; have C1 := Lib.hid hk1; have B1 := Lib.hid hb1; have q0 : w1.cell? ⟨g1, 0, none⟩ = some (.slice A t.nodes.length c) := hk1.cell 0 (by simpa using C0.out); clear hk1 hb1 hg1)
    | fail)
  have HR1 := Lib.hid (HR.out.below B1.out)
  go_loopw [3] (fun j wr => ∃ k : Nat, j = .int .i64 k ∧ k ≤ t.nodes.length ∧ wr = w1 ∧ ∀ n ∈ t.nodes.take k, n.names.length ≤ 60 ∧ n.data.length ≤ 5000) (fun j _ => t.nodes.length - (RowKit.intOf j).toNat)
  case atStart => exact ⟨0, rfl, Nat.zero_le _, rfl, fun n hn => by simp at hn⟩
  case round =>
    obtain ⟨k, rfl, hk, rfl, hpre⟩ := hrel
    have HPRE := Lib.hid hpre
    clear hpre
    by_cases hlt : k < t.nodes.length
    · obtain ⟨b, off, xs, hA, hnd, hat⟩ := HR1.out.get k hlt
      subst hA
      obtain ⟨dv, ev, rfl, hbd, hbn, -⟩ := hnd
      obtain ⟨Ad, cd, rfl, -, -, hd1, hd2⟩ := hbd
      obtain ⟨Ae, ce, rfl, -, he1, he2, -⟩ := hbn
      have HTK := Lib.hid (take_snoc hlt)
      generalize t.nodes[k] = n at *
      have q4 : wr.cell? ⟨b, off + k * 6 + 4, none⟩ = some (.slice Ad n.data.length cd) := hat 4 _ rfl
      have q5 : wr.cell? ⟨b, off + k * 6 + 5, none⟩ = some (.slice Ae n.names.length ce) := hat 5 _ rfl
      have id8 : (n.data.length : Int) ≤ 9223372036854775807 := by unfold maxLen at hd2; omega
      have ie8 : (n.names.length : Int) ≤ 9223372036854775807 := by unfold maxLen at he2; omega
      clear hat hd1 hd2 he1 he2
      by_cases h1 : (60 : Int) < (n.names.length : Int)
      · go_wp2_with fail
        go_ret
        exact ⟨true, rfl, fun h => (by cases h), B1.out⟩
      by_cases h2 : (5000 : Int) < (n.data.length : Int)
      · go_wp2_with fail
        go_ret
        exact ⟨true, rfl, fun h => (by cases h), B1.out⟩
      · have HN := Lib.hid (show n.names.length ≤ 60 ∧ n.data.length ≤ 5000 by omega)
        go_wp2_with fail
        go_roundw
        case rel => exact ⟨k + 1, by go_num, hlt, (by first | rfl | trivial), by rw [HTK.out]; intro e he; rw [List.mem_append, List.mem_singleton] at he; rcases he with he | rfl; exact HPRE.out e he; exact HN.out⟩
        case measure => simp [RowKit.intOf]; omega
    · obtain rfl : k = t.nodes.length := by omega
      have HALL := Lib.hid (show GrT t from ⟨H80.out, by have := HPRE.out; rwa [List.take_length] at this⟩)
      go_wp2_with fail
      go_ret
      exact ⟨false, rfl, fun _ => HALL.out, B1.out⟩

end Go.Proofs.YtdhlejhflkfoaaaDoor
/- BoxRows: whatever tree comes in. -/
namespace Go.Proofs.YtdhlejhflkfoaaaDoor
open Go.RowKit Go.Shelf
set_option linter.unusedVariables false
set_option maxRecDepth 100000
set_option linter.unusedSimpArgs false

open Classical in
noncomputable def rowsOr (t : Tr) : List Rw := if WholeT t then rowsT t else []
open Classical in
noncomputable def errOr (t : Tr) : Int := if WholeT t then 0 else 2
open Classical in
noncomputable def wholeBT (t : Tr) : Bool := decide (WholeT t)
theorem RowsRet.or {t : Tr} {w w' : World} {e : Ending} (h : RowsRet t w e w') (h4 : t.sess.length = 4) : ∃ A c, e = .returned (.tuple #[.slice A (rowsOr t).length c, .int .i64 (errOr t)]) ∧ RdX rowE w' (w.heap.size ≤ ·) A (rowsOr t) ∧ Spl 2 w' w.heap.size A (rowsOr t).length ∧ (rowsOr t).length ≤ 69 ∧ Below w.heap.size w w' := by
  obtain ⟨h | h, hb⟩ := h
  · obtain ⟨hw, v, rfl, ho⟩ := h
    have e1 : rowsOr t = rowsT t := by unfold rowsOr; rw [if_pos hw]
    have e2 : errOr t = 0 := by unfold errOr; rw [if_pos hw]
    have hl : (rowsT t).length ≤ 69 := by rcases rows_count hw with h | h; exact h; exact absurd h4 h
    obtain ⟨A, c, rfl, hr, -⟩ := OwnX.lsW ho
    rw [e1, e2]
    exact ⟨A, c, rfl, hr.rowE, hr.splR, hl, hb⟩
  · obtain ⟨hw, rfl⟩ := h
    have e1 : rowsOr t = [] := by unfold rowsOr; rw [if_neg hw]
    have e2 : errOr t = 2 := by unfold errOr; rw [if_neg hw]
    rw [e1, e2]
    exact ⟨none, 0, rfl, .inl rfl, fun j hj => by simp at hj, Nat.zero_le _, hb⟩
theorem RowsRetR.or {t : Tr} {w w' : World} {e : Ending} (h : RowsRetR t w e w') : ∃ A c, e = .returned (.tuple #[.slice A (rowsOr t).length c, .int .i64 (errOr t)]) ∧ RdX rowE w' (w.heap.size ≤ ·) A (rowsOr t) ∧ Below w.heap.size w w' := by
  obtain ⟨h | h, hb⟩ := h
  · obtain ⟨hw, v, rfl, ho⟩ := h
    have e1 : rowsOr t = rowsT t := by unfold rowsOr; rw [if_pos hw]
    have e2 : errOr t = 0 := by unfold errOr; rw [if_pos hw]
    obtain ⟨A, c, rfl, hr, -⟩ := OwnX.lsW ho
    rw [e1, e2]
    exact ⟨A, c, rfl, hr, hb⟩
  · obtain ⟨hw, rfl⟩ := h
    have e1 : rowsOr t = [] := by unfold rowsOr; rw [if_neg hw]
    have e2 : errOr t = 2 := by unfold errOr; rw [if_neg hw]
    rw [e1, e2]
    exact ⟨none, 0, rfl, .inl rfl, hb⟩
theorem TellsB.whole {t : Tr} {w w' : World} {e : Ending} (h : TellsB (WholeT t) w e w') : e = .returned (.bool (wholeBT t)) ∧ Below w.heap.size w w' := by
  obtain ⟨b, rfl, hb, hbl⟩ := h
  refine ⟨?_, hbl⟩
  have : b = wholeBT t := by
    unfold wholeBT
    classical
    cases b
    · rw [decide_eq_false fun h => by have := hb.2 h; cases this]
    · rw [decide_eq_true (hb.1 rfl)]
  rw [this]
end Go.Proofs.YtdhlejhflkfoaaaDoor
/- BoxLoads: whatever rows come in. -/
namespace Go.Proofs.YtdhlejhflkfoaaaDoor
open Go.RowKit Go.Shelf
set_option linter.unusedVariables false
set_option maxRecDepth 100000
set_option linter.unusedSimpArgs false

/-- values of a list's elements, each typed memory of one's own -/
def SplG (n i : Nat) (w : World) (base : Nat) (A : Option Addr) (m : Nat) : Prop := ∀ j, j < m → ∃ b off v, A = some ⟨b, off, none⟩ ∧ w.cell? ⟨b, off + j * n + i, none⟩ = some v ∧ TyB w v ∧ ∀ k, v.ownBlock = some k → base ≤ k ∧ k < w.heap.size
theorem SplG.below {n i : Nat} {w w' : World} {base : Nat} {A : Option Addr} {m : Nat} (h : SplG n i w base A m) (hb : Below w.heap.size w w') : SplG n i w' base A m := fun j hj => by
  obtain ⟨b, off, v, e, hc, ht, hk⟩ := h j hj
  exact ⟨b, off, v, e, cell_b hb hc, ht.below hb, fun k e => ⟨(hk k e).1, Nat.lt_of_lt_of_le (hk k e).2 hb.size⟩⟩
/-- what Load answers, in one word -/
structure LoadOr (l : List Rw) (t : Tr) (er : Int) : Prop where
  says : (RngT t ∧ WholeT t ∧ rowsT t = l ∧ er = 0) ∨ ((∀ t, RngT t → WholeT t → rowsT t ≠ l) ∧ t = zeroT ∧ er = 5)
theorem LoadRet.or {l : List Rw} {w w' : World} {e : Ending} (h : LoadRet l w e w') : ∃ t er L cs, e = .returned (.tuple #[.agg cs.toArray, .int .i64 er]) ∧ LoT w' w.heap.size L cs t ∧ LoadOr l t er ∧ Below w.heap.size w w' := by
  obtain ⟨⟨t, h1, h2, h3, L, cs, he, hl⟩ | ⟨hno, he⟩, hb⟩ := h
  · exact ⟨t, 0, L, cs, he, hl, ⟨.inl ⟨h1, h2, h3, rfl⟩⟩, hb⟩
  · exact ⟨zeroT, 5, 0, treeZ, he, LoT.zero _ _ _, ⟨.inr ⟨hno, rfl, rfl⟩⟩, hb⟩
theorem LoadOr.one {l : List Rw} {t t' : Tr} {er er' : Int} (h : LoadOr l t er) (h' : LoadOr l t' er') : t = t' ∧ er = er' := by
  rcases h.says with ⟨h1, h2, h3, h4⟩ | ⟨h1, h2, h3⟩
  · rcases h'.says with ⟨k1, k2, k3, k4⟩ | ⟨k1, k2, k3⟩
    · exact ⟨rows_one h2 h1 k2 k1 (by rw [h3, k3]), by rw [h4, k4]⟩
    · exact absurd h3 (k1 t h1 h2)
  · rcases h'.says with ⟨k1, k2, k3, k4⟩ | ⟨k1, k2, k3⟩
    · exact absurd k3 (h1 t' k1 k2)
    · exact ⟨by rw [h2, k2], by rw [h3, k3]⟩
end Go.Proofs.YtdhlejhflkfoaaaDoor
/- BoxBack: whatever tree, whatever rows come in. -/
namespace Go.Proofs.YtdhlejhflkfoaaaDoor
open Go.RowKit Go.Shelf
set_option linter.unusedVariables false
set_option maxRecDepth 100000
set_option linter.unusedSimpArgs false

set_option maxHeartbeats 32000000 in
theorem boxBack_walk (t : Tr) (cs : List Value) (l : List Rw) (A : Option Addr) (c : Nat) (w : World) (hT : Tabs w) (h : TrAt w (· < w.heap.size) cs t) (hr : RdX rowE w (· < w.heap.size) A l) (hkey : ∀ x ∈ l, x.1.length ≤ maxLen) (hlc : l.length ≤ c) (hcm : c ≤ maxLen) (hnil : A = none → l = [] ∧ c = 0) :
    Calls Tryd.prog 5 #[.agg cs.toArray, .slice A l.length c] w fun e w' => e = .returned (.bool true) ∧ Below w.heap.size w w' := by
  have HT := Lib.hid hT
  have TR := Lib.hid h
  have HCL := Lib.hid h.len
  have HCO := Lib.hid h.one
  have HRG := Lib.hid h.rng
  have HR := Lib.hid hr
  have HLS := Lib.hid (show LsW rowE w (· < w.heap.size) (.slice A l.length c) l from ⟨A, c, rfl, hr, hlc, hcm, hnil⟩)
  have HKY := Lib.hid hkey
  have il : (l.length : Int) ≤ 9223372036854775807 := by unfold maxLen at hcm; omega
  clear hT h hr hlc hcm hnil hkey
  by_cases hbig : (100 : Int) < (l.length : Int)
  · go_enter Tryd.func5, Tryd.ntmps5
    go_wp2_with (first
      | ((with_reducible show wpList _ _ _ _ _ w); refine wpList_boxS rfl 30 _ rfl cs rfl ?_; intro g2 w1 hk1 hb1 hg1; go_frame; have C1 := Lib.hid hk1; have B1 := Lib.hid hb1; clear hk1 hb1 hg1)
      | ((with_reducible show wpList _ _ _ _ _ w1); refine wpList_loadS rfl 30 _ rfl g2 rfl cs C1.out _ Tryd.underlying30 rfl (by rw [HCL.out]; exact infoTree) ?_; go_frame)
      | fail)
    refine (great_v t cs _ w1 (TR.out.below B1.out)).mono ?_
    rintro e w2 ⟨b, rfl, -, hb⟩
    have B2 := Lib.hid (below_chain B1.out hb)
    clear hb
    cases b
    all_goals
      go_wp2_with fail
      refine (lives14_v w2 (HT.out.below B2.out)).mono ?_
      rintro e w3 ⟨rfl, hb⟩
      have B3 := Lib.hid (below_chain B2.out hb)
      clear hb
      go_wp2_with fail
      go_ret
      exact ⟨rfl, B3.out⟩
  have HS := Lib.hid (show SmallR l from ⟨by omega, fun x hx => by have := HKY.out x hx; unfold maxLen at this; omega⟩)
  have HLN := Lib.hid (show l.length ≤ 100 by omega)
  go_enter Tryd.func5, Tryd.ntmps5
  go_wp2_with (first
    | ((with_reducible show wpList _ _ _ _ _ w); refine wpList_boxS rfl 30 _ rfl cs rfl ?_; intro g2 w1 hk1 hb1 hg1; go_frame; have C1 := Lib.hid hk1; have B1 := Lib.hid hb1; clear hk1 hb1 hg1)
    | ((with_reducible show wpList _ _ _ _ _ w1); refine wpList_loadS rfl 30 _ rfl g2 rfl cs C1.out _ Tryd.underlying30 rfl (by rw [HCL.out]; exact infoTree) ?_; go_frame)
    | fail)
  refine (great_v t cs _ w1 (TR.out.below B1.out)).mono ?_
  rintro e w2 ⟨b, rfl, hgr, hb⟩
  have B2 := Lib.hid (below_chain B1.out hb)
  have C2 := Lib.hid (C1.out.below hb C1.out.lt)
  clear hb
  cases b
  rotate_left
  · clear hgr
    go_wp2_with fail
    refine (lives14_v w2 (HT.out.below B2.out)).mono ?_
    rintro e w3 ⟨rfl, hb⟩
    have B3 := Lib.hid (below_chain B2.out hb)
    clear hb
    go_wp2_with fail
    go_ret
    exact ⟨rfl, B3.out⟩
  have HGR := Lib.hid (hgr rfl)
  clear hgr
  go_wp2_with (first
    | ((with_reducible show wpList _ _ _ _ _ w2); refine wpList_loadS rfl 30 _ rfl g2 rfl cs C2.out _ Tryd.underlying30 rfl (by rw [HCL.out]; exact infoTree) ?_; go_frame)
    | fail)
  refine (Rows_v t cs _ w2 (HT.out.below B2.out) (TR.out.below B2.out)).mono ?_
  rintro e w3 ⟨hr, hb⟩
  have B3 := Lib.hid (below_chain B2.out hb)
  have C3 := Lib.hid (C2.out.below hb C2.out.lt)
  clear hb
  rcases hr with ⟨hw, v3, rfl, ho⟩ | ⟨hw, rfl⟩
  · have HW := Lib.hid hw
    have HLE := Lib.hid (show (rowsT t).length ≤ 69 by rcases rows_count hw with h | h; exact h; exact absurd HRG.out.four h)
    have HSM := Lib.hid (show SmallR (rowsT t) from ⟨by have := HLE.out; omega, fun x hx => by have := rows_keys hx; omega⟩)
    have LA := Lib.hid ((OwnX.lsW ho).rowE)
    obtain ⟨Aa, ca, rfl, -⟩ := OwnX.lsW ho
    obtain ⟨lr, hlr⟩ : ∃ lr, lr = rowsT t := ⟨_, rfl⟩
    have HLR := Lib.hid hlr
    rw [← hlr] at HLE HSM LA ⊢
    have ilr : (lr.length : Int) ≤ 69 := by have := HLE.out; omega
    clear hw ho hlr
    go_wp2_with (first
      | ((with_reducible show wpList _ _ _ _ _ w3); refine wpList_loadS rfl 30 _ rfl g2 rfl cs C3.out _ Tryd.underlying30 rfl (by rw [HCL.out]; exact infoTree) ?_; go_frame)
      | fail)
    refine (Whole_v t cs _ w3 (HT.out.below B3.out) (TR.out.below B3.out)).mono ?_
    intro e w4 hq
    obtain ⟨rfl, hb⟩ := hq.yes HW.out
    have B4 := Lib.hid (below_chain B3.out hb)
    have C4 := Lib.hid (C3.out.below hb C3.out.lt)
    have LA4 := Lib.hid (LsW.below LA.out hb)
    clear hb hq
    go_wp2_with fail
    refine (Load_k lr _ _ w4 (HT.out.below B4.out) LA4.out (by have := HLE.out; omega) HSM.out).mono ?_
    rintro e w5 ⟨hr, hb⟩
    have B5 := Lib.hid (below_chain B4.out hb)
    have C5 := Lib.hid (C4.out.below hb C4.out.lt)
    have LA5 := Lib.hid (LsW.below LA4.out hb)
    clear hb
    rcases hr with ⟨t', hk, hw, hrt, L, ds, rfl, hlo⟩ | ⟨hno, -⟩
    rotate_left
    · exact absurd HLR.out.symm (hno t HRG.out HW.out)
    obtain rfl : t = t' := rows_one HW.out HRG.out hw hk (by rw [hrt]; exact HLR.out.symm)
    have D5 := Lib.hid hlo.tr
    have HDL := Lib.hid hlo.len
    have HDO := Lib.hid hlo.tr.one
    clear hlo hw hk hrt
    go_wp2_with (first
      | ((with_reducible show wpList _ _ _ _ _ w5); refine wpList_allocS rfl 30 rfl treeZ treeZero ?_; intro g7 w6 hk1 hb1 hg1; go_frame; have C6 := Lib.hid hk1; have B56 := Lib.hid hb1; have G6 := Lib.hid hg1; clear hk1 hb1 hg1)
      | ((with_reducible show wpList _ _ _ _ _ w6); refine wpList_storeS rfl 30 _ _ rfl g7 rfl ds treeZ rfl C6.out (by rw [HDL.out]; rfl) HDO.out (by rw [HDL.out]; exact infoTree) ?_; intro w7 hk2 ht2; go_frame; have C7 := Lib.hid hk2; have B57 := Lib.hid (below_turn B56.out ht2 B56.out.size G6.out); have X7 := Lib.hid (C5.out.below B57.out C5.out.lt); clear hk2 ht2)
      | ((with_reducible show wpList _ _ _ _ _ w7); refine wpList_loadG (by rfl) 30 _ rfl g7 rfl ds C7.out _ Tryd.underlying30 rfl (by rw [HDL.out]; exact infoTree) ?_; go_frame)
      | ((with_reducible show wpList _ _ _ _ _ w7); refine wpList_loadG (by rfl) 30 _ rfl g2 rfl cs X7.out _ Tryd.underlying30 rfl (by rw [HCL.out]; exact infoTree) ?_; go_frame)
      | fail)
    have B7 := Lib.hid (below_chain B5.out B57.out)
    have D7 := Lib.hid (D5.out.below B57.out)
    refine (Same_v t ds cs _ _ w7 HW.out.may D7.out (TR.out.below B7.out)).mono ?_
    rintro e w8 ⟨rfl, hb⟩
    have B8 := Lib.hid (below_chain B7.out hb)
    have C8 := Lib.hid (C7.out.below hb C7.out.lt)
    have X8 := Lib.hid (X7.out.below hb X7.out.lt)
    have D8 := Lib.hid (D7.out.below hb)
    have LA8 := Lib.hid (LsW.below (LsW.below LA5.out B57.out) hb)
    clear hb
    go_wp2_with (first
      | ((with_reducible show wpList _ _ _ _ _ w8); refine wpList_loadG (by rfl) 30 _ rfl g7 rfl ds C8.out _ Tryd.underlying30 rfl (by rw [HDL.out]; exact infoTree) ?_; go_frame)
      | ((with_reducible show wpList _ _ _ _ _ w8); refine wpList_loadG (by rfl) 30 _ rfl g2 rfl cs X8.out _ Tryd.underlying30 rfl (by rw [HCL.out]; exact infoTree) ?_; go_frame)
      | fail)
    refine (SameR_v t ds cs _ _ w8 D8.out (TR.out.below B8.out) (by have := HGR.out.1; omega) (fun n hn => by have := HGR.out.2 n hn; omega)).mono ?_
    rintro e w9 ⟨rfl, hb⟩
    have B9 := Lib.hid (below_chain B8.out hb)
    have LA9 := Lib.hid (LsW.below LA8.out hb)
    clear hb
    go_wp2_with fail
    obtain ⟨Ay, cy, ey, hry, -⟩ := LA9.out
    cases ey
    refine (May_any lr Aa ca _ w9 HSM.out hry).mono ?_
    rintro e wp ⟨rfl, hb⟩
    have Bp := Lib.hid (below_chain B9.out hb)
    clear hb hry
    rw [show mayP lr = true by rw [HLR.out]; exact rows_may HW.out HRG.out]
    go_wp2_with fail
    refine (Load_k l _ _ wp (HT.out.below Bp.out) (LsW.below HLS.out Bp.out) (by have := HLN.out; omega) HS.out).mono ?_
    rintro e wq ⟨hr, hb⟩
    have Bq := Lib.hid (below_chain Bp.out hb)
    clear hb
    rcases hr with ⟨t9, hk9, hw9, hrt9, L9, es, rfl, hlo9⟩ | ⟨-, rfl⟩
    · have E9 := Lib.hid hlo9.tr
      have HEL := Lib.hid hlo9.len
      have HEO := Lib.hid hlo9.tr.one
      have HW9 := Lib.hid hw9
      have HRT9 := Lib.hid hrt9
      have HL9 := Lib.hid (show (rowsT t9).length ≤ 69 by rcases rows_count hw9 with h | h; exact h; exact absurd hk9.four h)
      clear hlo9 hw9 hk9 hrt9
      go_wp2_with (first
        | ((with_reducible show wpList _ _ _ _ _ wq); refine wpList_allocS rfl 30 rfl treeZ treeZero ?_; intro g9 wr hk1 hb1 hg1; go_frame; have Cr := Lib.hid hk1; have Bqr := Lib.hid hb1; have Gr := Lib.hid hg1; clear hk1 hb1 hg1)
        | ((with_reducible show wpList _ _ _ _ _ wr); refine wpList_storeS rfl 30 _ _ rfl g9 rfl es treeZ rfl Cr.out (by rw [HEL.out]; rfl) HEO.out (by rw [HEL.out]; exact infoTree) ?_; intro ws hk2 ht2; go_frame; have Cs9 := Lib.hid hk2; have Bqs := Lib.hid (below_turn Bqr.out ht2 Bqr.out.size Gr.out); clear hk2 ht2)
        | ((with_reducible show wpList _ _ _ _ _ ws); refine wpList_loadS rfl 30 _ rfl g9 rfl es Cs9.out _ Tryd.underlying30 rfl (by rw [HEL.out]; exact infoTree) ?_; go_frame)
        | fail)
      have Bs := Lib.hid (below_chain Bq.out Bqs.out)
      have Es := Lib.hid (E9.out.below Bqs.out)
      refine (Rows_v t9 es _ ws (HT.out.below Bs.out) Es.out).mono ?_
      rintro e wt ⟨hr, hb⟩
      have Bt := Lib.hid (below_chain Bs.out hb)
      have Et := Lib.hid (Es.out.below hb)
      have Ct := Lib.hid (Cs9.out.below hb Cs9.out.lt)
      clear hb
      rcases hr with ⟨-, vt, rfl, hot⟩ | ⟨hwn, -⟩
      rotate_left
      · exact absurd HW9.out hwn
      obtain ⟨At9, ct9, rfl, hrt9, -⟩ := (OwnX.lsW hot).rowE
      have RT := Lib.hid hrt9
      clear hot hrt9
      go_wp2_with fail
      refine (Rows_any (rowsT t9) l At9 A ct9 c _ _ wt (by have := HL9.out; omega) (by have := HLN.out; omega) RT.out (HR.out.below Bt.out)).mono ?_
      rintro e wu ⟨rfl, hb⟩
      have Bu := Lib.hid (below_chain Bt.out hb)
      have Eu := Lib.hid (Et.out.below hb)
      have Cu := Lib.hid (Ct.out.below hb Ct.out.lt)
      clear hb
      rw [decide_eq_true HRT9.out]
      go_wp2_with (first
        | ((with_reducible show wpList _ _ _ _ _ wu); refine wpList_loadG (by rfl) 30 _ rfl g9 rfl es Cu.out _ Tryd.underlying30 rfl (by rw [HEL.out]; exact infoTree) ?_; go_frame)
        | fail)
      refine (Whole_v t9 es _ wu (HT.out.below Bu.out) Eu.out).mono ?_
      intro e wv hq
      obtain ⟨rfl, hb⟩ := hq.yes HW9.out
      have Bv := Lib.hid (below_chain Bu.out hb)
      clear hb hq
      go_wp2_with fail
      refine (lives14_v wv (HT.out.below Bv.out)).mono ?_
      rintro e wx ⟨rfl, hb⟩
      have Bx := Lib.hid (below_chain Bv.out hb)
      clear hb
      go_wp2_with fail
      go_ret
      exact ⟨rfl, Bx.out⟩
    · go_wp2_with (first
        | ((with_reducible show wpList _ _ _ _ _ wq); refine wpList_allocS rfl 30 rfl treeZ treeZero ?_; intro g9 wr hk1 hb1 hg1; go_frame; have Cr := Lib.hid hk1; have Bqr := Lib.hid hb1; have Gr := Lib.hid hg1; clear hk1 hb1 hg1)
        | ((with_reducible show wpList _ _ _ _ _ wr); refine wpList_storeS rfl 30 _ _ rfl g9 rfl treeZ treeZ rfl Cr.out rfl treeZ_one infoTree ?_; intro ws hk2 ht2; go_frame; have Cs9 := Lib.hid hk2; have Bqs := Lib.hid (below_turn Bqr.out ht2 Bqr.out.size Gr.out); clear hk2 ht2)
        | ((with_reducible show wpList _ _ _ _ _ ws); refine wpList_loadS rfl 30 _ rfl g9 rfl treeZ Cs9.out _ Tryd.underlying30 rfl infoTree ?_; go_frame)
        | fail)
      have Bs := Lib.hid (below_chain Bq.out Bqs.out)
      refine (SameR_v zeroT treeZ treeZ _ _ ws (LoT.zero ws 0 0).tr (LoT.zero ws 0 0).tr (by decide) (by decide)).mono ?_
      rintro e wt ⟨rfl, hb⟩
      have Bt := Lib.hid (below_chain Bs.out hb)
      clear hb
      go_wp2_with fail
      refine (lives14_v wt (HT.out.below Bt.out)).mono ?_
      rintro e wx ⟨rfl, hb⟩
      have Bx := Lib.hid (below_chain Bt.out hb)
      clear hb
      go_wp2_with fail
      go_ret
      exact ⟨rfl, Bx.out⟩
  · have HW := Lib.hid hw
    clear hw
    go_wp2_with (first
      | ((with_reducible show wpList _ _ _ _ _ w3); refine wpList_loadS rfl 30 _ rfl g2 rfl cs C3.out _ Tryd.underlying30 rfl (by rw [HCL.out]; exact infoTree) ?_; go_frame)
      | fail)
    refine (Whole_v t cs _ w3 (HT.out.below B3.out) (TR.out.below B3.out)).mono ?_
    intro e wp hq
    obtain ⟨rfl, hb⟩ := hq.no HW.out
    have Bp := Lib.hid (below_chain B3.out hb)
    clear hb hq
    go_wp2_with fail
    refine (Load_k l _ _ wp (HT.out.below Bp.out) (LsW.below HLS.out Bp.out) (by have := HLN.out; omega) HS.out).mono ?_
    rintro e wq ⟨hr, hb⟩
    have Bq := Lib.hid (below_chain Bp.out hb)
    clear hb
    rcases hr with ⟨t9, hk9, hw9, hrt9, L9, es, rfl, hlo9⟩ | ⟨-, rfl⟩
    · have E9 := Lib.hid hlo9.tr
      have HEL := Lib.hid hlo9.len
      have HEO := Lib.hid hlo9.tr.one
      have HW9 := Lib.hid hw9
      have HRT9 := Lib.hid hrt9
      have HL9 := Lib.hid (show (rowsT t9).length ≤ 69 by rcases rows_count hw9 with h | h; exact h; exact absurd hk9.four h)
      clear hlo9 hw9 hk9 hrt9
      go_wp2_with (first
        | ((with_reducible show wpList _ _ _ _ _ wq); refine wpList_allocS rfl 30 rfl treeZ treeZero ?_; intro g9 wr hk1 hb1 hg1; go_frame; have Cr := Lib.hid hk1; have Bqr := Lib.hid hb1; have Gr := Lib.hid hg1; clear hk1 hb1 hg1)
        | ((with_reducible show wpList _ _ _ _ _ wr); refine wpList_storeS rfl 30 _ _ rfl g9 rfl es treeZ rfl Cr.out (by rw [HEL.out]; rfl) HEO.out (by rw [HEL.out]; exact infoTree) ?_; intro ws hk2 ht2; go_frame; have Cs9 := Lib.hid hk2; have Bqs := Lib.hid (below_turn Bqr.out ht2 Bqr.out.size Gr.out); clear hk2 ht2)
        | ((with_reducible show wpList _ _ _ _ _ ws); refine wpList_loadS rfl 30 _ rfl g9 rfl es Cs9.out _ Tryd.underlying30 rfl (by rw [HEL.out]; exact infoTree) ?_; go_frame)
        | fail)
      have Bs := Lib.hid (below_chain Bq.out Bqs.out)
      have Es := Lib.hid (E9.out.below Bqs.out)
      refine (Rows_v t9 es _ ws (HT.out.below Bs.out) Es.out).mono ?_
      rintro e wt ⟨hr, hb⟩
      have Bt := Lib.hid (below_chain Bs.out hb)
      have Et := Lib.hid (Es.out.below hb)
      have Ct := Lib.hid (Cs9.out.below hb Cs9.out.lt)
      clear hb
      rcases hr with ⟨-, vt, rfl, hot⟩ | ⟨hwn, -⟩
      rotate_left
      · exact absurd HW9.out hwn
      obtain ⟨At9, ct9, rfl, hrt9, -⟩ := (OwnX.lsW hot).rowE
      have RT := Lib.hid hrt9
      clear hot hrt9
      go_wp2_with fail
      refine (Rows_any (rowsT t9) l At9 A ct9 c _ _ wt (by have := HL9.out; omega) (by have := HLN.out; omega) RT.out (HR.out.below Bt.out)).mono ?_
      rintro e wu ⟨rfl, hb⟩
      have Bu := Lib.hid (below_chain Bt.out hb)
      have Eu := Lib.hid (Et.out.below hb)
      have Cu := Lib.hid (Ct.out.below hb Ct.out.lt)
      clear hb
      rw [decide_eq_true HRT9.out]
      go_wp2_with (first
        | ((with_reducible show wpList _ _ _ _ _ wu); refine wpList_loadG (by rfl) 30 _ rfl g9 rfl es Cu.out _ Tryd.underlying30 rfl (by rw [HEL.out]; exact infoTree) ?_; go_frame)
        | fail)
      refine (Whole_v t9 es _ wu (HT.out.below Bu.out) Eu.out).mono ?_
      intro e wv hq
      obtain ⟨rfl, hb⟩ := hq.yes HW9.out
      have Bv := Lib.hid (below_chain Bu.out hb)
      clear hb hq
      go_wp2_with fail
      refine (lives14_v wv (HT.out.below Bv.out)).mono ?_
      rintro e wx ⟨rfl, hb⟩
      have Bx := Lib.hid (below_chain Bv.out hb)
      clear hb
      go_wp2_with fail
      go_ret
      exact ⟨rfl, Bx.out⟩
    · go_wp2_with (first
        | ((with_reducible show wpList _ _ _ _ _ wq); refine wpList_allocS rfl 30 rfl treeZ treeZero ?_; intro g9 wr hk1 hb1 hg1; go_frame; have Cr := Lib.hid hk1; have Bqr := Lib.hid hb1; have Gr := Lib.hid hg1; clear hk1 hb1 hg1)
        | ((with_reducible show wpList _ _ _ _ _ wr); refine wpList_storeS rfl 30 _ _ rfl g9 rfl treeZ treeZ rfl Cr.out rfl treeZ_one infoTree ?_; intro ws hk2 ht2; go_frame; have Cs9 := Lib.hid hk2; have Bqs := Lib.hid (below_turn Bqr.out ht2 Bqr.out.size Gr.out); clear hk2 ht2)
        | ((with_reducible show wpList _ _ _ _ _ ws); refine wpList_loadS rfl 30 _ rfl g9 rfl treeZ Cs9.out _ Tryd.underlying30 rfl infoTree ?_; go_frame)
        | fail)
      have Bs := Lib.hid (below_chain Bq.out Bqs.out)
      refine (SameR_v zeroT treeZ treeZ _ _ ws (LoT.zero ws 0 0).tr (LoT.zero ws 0 0).tr (by decide) (by decide)).mono ?_
      rintro e wt ⟨rfl, hb⟩
      have Bt := Lib.hid (below_chain Bs.out hb)
      clear hb
      go_wp2_with fail
      refine (lives14_v wt (HT.out.below Bt.out)).mono ?_
      rintro e wx ⟨rfl, hb⟩
      have Bx := Lib.hid (below_chain Bt.out hb)
      clear hb
      go_wp2_with fail
      go_ret
      exact ⟨rfl, Bx.out⟩

end Go.Proofs.YtdhlejhflkfoaaaDoor
