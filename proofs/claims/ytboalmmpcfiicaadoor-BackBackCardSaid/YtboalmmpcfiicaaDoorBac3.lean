/- Which replies may be. -/
import Derived.Test.YtboalmmpcfiicaaDoorAnyW
import Derived.Test.YtboalmmpcfiicaaDoorBac0
import Derived.Test.YtboalmmpcfiicaaDoorBac2
namespace Go.Proofs.YtboalmmpcfiicaaDoor
open Go.RowKit Go.Shelf Go.Maps
set_option linter.unusedVariables false
set_option maxRecDepth 100000
set_option linter.unusedSimpArgs false

theorem StM.look {w : World} {g : Nat} (h : StM w g) (k : Nat) (hk : k < 256) : (Instr.lookup 72 (.map (some g)) (.int .u8 (k : Int)) true).run Tryd.prog w = .ok (.tuple #[.int .i64 (if k ≤ 9 then errB k else 0), .bool (decide (k ≤ 9))]) w := by
  obtain ⟨v, ps, hrun, hv⟩ := World.ownsMap.look_ok h ukeyed Tryd.underlying72 (zeroErrno w) (val64 0 (by decide)) (key8 (k : Int) (by omega))
  obtain ⟨c, rfl, hc, -⟩ := plainElem_int_inv Tryd.underlying34 hv
  rw [hrun, st_has]
  have hc' := congrArg Prod.fst hc
  dsimp only at hc'
  congr 3
  by_cases h9 : k ≤ 9
  · have h2 := st_at k h9
    rw [if_pos h9]
    have := dI_inj (er := errB k) (c := c) h2 hc'
    rw [this]
  · rw [if_neg h9]
    have ne : ∀ j : Int, j ≤ 9 → 0 ≤ j → ky8 (k : Int) ≠ ky8 j := fun j h1 h2 e => by
      injection e with _ e
      omega
    have h2 : stD.atKey (ky8 (k : Int)) (dI 0) = dI 0 := by
      unfold stD
      rw [atKey_put_other (ne 9 (by decide) (by decide)), atKey_put_other (ne 8 (by decide) (by decide)), atKey_put_other (ne 7 (by decide) (by decide)), atKey_put_other (ne 6 (by decide) (by decide)), atKey_put_other (ne 5 (by decide) (by decide)), atKey_put_other (ne 4 (by decide) (by decide)), atKey_put_other (ne 3 (by decide) (by decide)), atKey_put_other (ne 2 (by decide) (by decide)), atKey_put_other (ne 1 (by decide) (by decide)), atKey_put_other (ne 0 (by decide) (by decide))]
      rfl
    have := dI_inj (er := 0) (c := c) h2 hc'
    rw [this]
theorem may_prog (c : BackX) : mayB c = (decide (c.status ≤ 9) && decide ((c.client : Int) < 4) && decide (0 < (c.inc : Int)) && decide (0 < (c.seq : Int)) && decide ((c.size : Int) ≤ 4096) && decide ((c.data.length : Int) ≤ 64) && (decide (c.names.length ≤ 32) && namesB c.names)) := by
  have e1 := nat_ltB c.client 4
  have e2 := nat_ltB 0 c.inc
  have e3 := nat_ltB 0 c.seq
  have e4 := nat_leB c.size 4096
  have e5 := nat_leB c.data.length 64
  unfold mayB
  rw [e1, e2, e3, e4, e5]
  clear e1 e2 e3 e4 e5
  show (decide ((c.client : Int) < 4) && decide (0 < (c.inc : Int)) && decide (0 < (c.seq : Int)) && decide (c.status ≤ 9) && decide ((c.size : Int) ≤ 4096) && decide ((c.data.length : Int) ≤ 64) && decide (c.names.length ≤ 32) && namesB c.names) = _
  generalize decide ((c.client : Int) < 4) = b1
  generalize decide (0 < (c.inc : Int)) = b2
  generalize decide (0 < (c.seq : Int)) = b3
  generalize decide (c.status ≤ 9) = b4
  generalize decide ((c.size : Int) ≤ 4096) = b5
  generalize decide ((c.data.length : Int) ≤ 64) = b6
  generalize decide (c.names.length ≤ 32) = b7
  generalize namesB c.names = b8
  revert b1 b2 b3 b4 b5 b6 b7 b8
  decide
theorem Cs.bac {w : World} {g : Nat} {c : BackX} {v u : Value} (h : Cs w g 31 (bacCells c v u).toArray) : w.cell? ⟨g, 0, none⟩ = some (.int .u8 (c.client : Int)) ∧ w.cell? ⟨g, 1, none⟩ = some (.int .u32 (c.inc : Int)) ∧ w.cell? ⟨g, 2, none⟩ = some (.int .u64 (c.seq : Int)) ∧ w.cell? ⟨g, 3, none⟩ = some (.int .u8 (c.status : Int)) ∧ w.cell? ⟨g, 4, none⟩ = some (.int .u32 (c.ino : Int)) ∧ w.cell? ⟨g, 5, none⟩ = some (.int .u32 (c.gen : Int)) ∧ w.cell? ⟨g, 6, none⟩ = some (.bool c.dir) ∧ w.cell? ⟨g, 7, none⟩ = some (.int .u32 (c.size : Int)) ∧ w.cell? ⟨g, 8, none⟩ = some (.int .u64 (c.change : Int)) ∧ w.cell? ⟨g, 9, none⟩ = some (.int .u64 (c.before : Int)) ∧ w.cell? ⟨g, 10, none⟩ = some v ∧ w.cell? ⟨g, 11, none⟩ = some u ∧ w.cell? ⟨g, 12, none⟩ = some (.int .u32 (c.boot : Int)) :=
  ⟨h.cell 0 rfl, h.cell 1 rfl, h.cell 2 rfl, h.cell 3 rfl, h.cell 4 rfl, h.cell 5 rfl, h.cell 6 rfl, h.cell 7 rfl, h.cell 8 rfl, h.cell 9 rfl, h.cell 10 rfl, h.cell 11 rfl, h.cell 12 rfl⟩
def MayS (w : World) (g : Nat) (cs : Array Value) (u : World) : Prop := Cs u g 31 cs ∧ Below w.heap.size w u
theorem kept_mayS (w : World) (g : Nat) (cs : Array Value) : Kept (MayS w g cs) := fun u u' h hb => ⟨h.1.below hb h.1.lt, below_chain h.2 hb⟩
def MayS2 (w : World) (g : Nat) (cs : Array Value) (m : Nat) (u : World) : Prop := MayS w g cs u ∧ StM u m
theorem kept_mayS2 (w : World) (g : Nat) (cs : Array Value) (m : Nat) : Kept (MayS2 w g cs m) := fun u u' h hb => ⟨kept_mayS w g cs u u' h.1 hb, h.2.below hb⟩
set_option maxHeartbeats 8000000 in
theorem May_v {F : Nat → Prop} {c : BackX} {v u : Value} {w : World} (h : BacV w F c v u) (hT : Tabs w) : Calls Tryd.prog 12 #[.agg (bacCells c v u).toArray] w fun e w' => e = .returned (.bool (mayB c)) ∧ Below w.heap.size w w' := by
  obtain ⟨A, ca, rfl, -⟩ := id h.1
  obtain ⟨B, cb, rfl, -⟩ := id h.2.1
  have hk : c.status < 256 := h.2.2.2.2.2.1
  have HN := Lib.hid fun W (hb : Below w.heap.size w W) => mayNames_v c.names B cb W (h.2.1.rds.below hb) (hT.below hb)
  have HLK := Lib.hid fun (W : World) (g : Nat) (hs : StM W g) => hs.look c.status hk
  have hone := bac_one (c := c) h.1.one h.2.1.one
  rw [may_prog]
  have hmix : Tryd.prog.follows .mixedOrders = true := by kernel_rfl
  clear h hT hk
  generalize (decide (c.names.length ≤ 32) && namesB c.names) = b7 at *
  generalize (if c.status ≤ 9 then errB c.status else 0) = er at *
  generalize decide (c.status ≤ 9) = b0 at *
  generalize hcs : bacCells c (.slice A c.data.length ca) (.slice B c.names.length cb) = cs at *
  have HCS := Lib.hid hcs
  have hinfo : (Tryd.prog.info? 31).map (·.size) = some cs.length := by rw [← hcs]; exact infoBack
  clear hcs
  go_enter Tryd.func12, Tryd.ntmps12
  go_wp2_with (first
    | ((with_reducible show wpList _ _ _ _ _ w); refine wpList_boxS rfl 31 _ rfl cs rfl ?_; intro g1 w1 hk1 hb1 hg1; go_frame; have C1 := Lib.hid hk1; have B1 := Lib.hid hb1; have G1 := Lib.hid hg1; clear hk1 hb1 hg1)
    | fail)
  refine wp_region_W (MayS w g1 cs.toArray) (MayS w g1 cs.toArray) hmix ⟨C1.out.drew, B1.out.drew⟩ ?_
  change wpAnyW _ _ _ _ _ _ _ _ _
  have hcs0 := HCS.out
  have q3 : ∀ W, MayS w g1 cs.toArray W → W.cell? ⟨g1, 3, none⟩ = some (.int .u8 (c.status : Int)) := fun W hS => by
    have h1 := hS.1
    rw [← hcs0] at h1
    exact h1.cell 3 rfl
  have Q3 := Lib.hid q3
  clear q3 hcs0
  refine wpAnyW_take (i := 1) (v := .pointer (some ⟨g1, 3, none⟩)) (kept_mayS _ _ _) (fun _ h => h) rfl (by kernel_rfl) (by kernel_rfl) (fun _ _ _ h => h) (DoesV.reads (by rfl) fun w9 hS => by go_simp) ?_
  try simp only [List.getElem_toArray, List.getElem_cons_succ, List.getElem_cons_zero, Act.put, List.setIfInBounds_toArray, List.set_cons_succ, List.set_cons_zero]
  refine wpAnyW_take (i := 2) (v := .int .u8 (c.status : Int)) (kept_mayS _ _ _) (fun _ h => h) rfl (by kernel_rfl) (by kernel_rfl) (fun _ _ _ h => h) (DoesV.reads (by rfl) fun w9 hS => by have q0 := Q3.out w9 hS; go_simp) ?_
  try simp only [List.getElem_toArray, List.getElem_cons_succ, List.getElem_cons_zero, Act.put, List.setIfInBounds_toArray, List.set_cons_succ, List.set_cons_zero]
  refine wpAnyW_only (i := 0) rfl (by kernel_rfl) rfl (fun W hS => wp_of_call (by go_simp) (statuses_v W) fun e W' ⟨he, hs, hb⟩ => ⟨_, he, MayS2 w g1 cs.toArray W.heap.size, ⟨kept_mayS _ _ _ _ _ hS hb, hs⟩, kept_mayS2 _ _ _ _, fun _ h => h.1, ?_⟩)
  try simp only [List.getElem_toArray, List.getElem_cons_succ, List.getElem_cons_zero, Act.put, List.setIfInBounds_toArray, List.set_cons_succ, List.set_cons_zero]
  refine wpAnyW_only (i := 3) rfl (by kernel_rfl) rfl (fun W2 hS2 => wp_of_run2 (v := .tuple #[.int .i64 er, .bool b0]) (by have q0 := HLK.out W2 _ hS2.2; go_simp) ⟨_, hS2, kept_mayS2 _ _ _ _, fun _ h => h.1, ?_⟩)
  try simp only [List.getElem_toArray, List.getElem_cons_succ, List.getElem_cons_zero, Act.put, List.setIfInBounds_toArray, List.set_cons_succ, List.set_cons_zero]
  refine wpAnyW_take (i := 4) (v := .tuple #[.int .i64 er, .bool b0]) (kept_mayS2 _ _ _ _) (fun _ h => h.1) rfl (by kernel_rfl) (by kernel_rfl) (fun _ _ _ h => h) (DoesV.reads (by rfl) fun w9 hS => by go_simp) ?_
  try simp only [List.getElem_toArray, List.getElem_cons_succ, List.getElem_cons_zero, Act.put, List.setIfInBounds_toArray, List.set_cons_succ, List.set_cons_zero]
  refine wpAnyW_take (i := 5) (v := .int .i64 er) (kept_mayS2 _ _ _ _) (fun _ h => h.1) rfl (by kernel_rfl) (by kernel_rfl) (fun _ _ _ h => h) (DoesV.reads (by rfl) fun w9 hS => by go_simp) ?_
  try simp only [List.getElem_toArray, List.getElem_cons_succ, List.getElem_cons_zero, Act.put, List.setIfInBounds_toArray, List.set_cons_succ, List.set_cons_zero]
  refine wpAnyW_take (i := 6) (v := .bool b0) (kept_mayS2 _ _ _ _) (fun _ h => h.1) rfl (by kernel_rfl) (by kernel_rfl) (fun _ _ _ h => h) (DoesV.reads (by rfl) fun w9 hS => by go_simp) ?_
  try simp only [List.getElem_toArray, List.getElem_cons_succ, List.getElem_cons_zero, Act.put, List.setIfInBounds_toArray, List.set_cons_succ, List.set_cons_zero]
  refine wpAnyW_take (i := 7) (v := .int .i64 er) (kept_mayS2 _ _ _ _) (fun _ h => h.1) rfl (by kernel_rfl) (by kernel_rfl) (fun _ _ _ h => h) (DoesV.reads (by rfl) fun w9 hS => by go_simp) ?_
  try simp only [List.getElem_toArray, List.getElem_cons_succ, List.getElem_cons_zero, Act.put, List.setIfInBounds_toArray, List.set_cons_succ, List.set_cons_zero]
  refine wpAnyW_take (i := 8) (v := .bool b0) (kept_mayS2 _ _ _ _) (fun _ h => h.1) rfl (by kernel_rfl) (by kernel_rfl) (fun _ _ _ h => h) (DoesV.reads (by rfl) fun w9 hS => by go_simp) ?_
  try simp only [List.getElem_toArray, List.getElem_cons_succ, List.getElem_cons_zero, Act.put, List.setIfInBounds_toArray, List.set_cons_succ, List.set_cons_zero]
  refine wpAnyW_done (by kernel_rfl) (fun y hu => ?_) _
  have C3 := hu.1.1
  rw [← HCS.out] at C3
  obtain ⟨p0, p1, p2, p3, p4, p5, p6, p7, p8, p9, p10, p11, p12⟩ := C3.bac
  have B3 := Lib.hid hu.1.2
  have HN3 := Lib.hid (HN.out y hu.1.2)
  clear C3 hu
  go_wp2_with fail
  all_goals first
    | (refine HN3.out.mono ?_
       rintro e w3 ⟨rfl, hb⟩
       have B4 := Lib.hid (below_chain B3.out hb)
       clear hb
       go_wp2_with fail
       go_ret
       exact ⟨by first | (simp_all; done) | (simp_all; intros; omega), B4.out⟩)
    | (go_ret
       exact ⟨by first | (simp_all; done) | (simp_all; intros; omega), B3.out⟩)

end Go.Proofs.YtboalmmpcfiicaaDoor
