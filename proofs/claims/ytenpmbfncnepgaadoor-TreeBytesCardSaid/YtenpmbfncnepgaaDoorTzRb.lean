/- The program: Rename. -/
import Derived.Test.YtenpmbfncnepgaaDoorTzRl
namespace Go.Proofs.YtenpmbfncnepgaaDoor
open Go.RowKit Go.Shelf
set_option linter.unusedVariables false
set_option maxRecDepth 100000
set_option linter.unusedSimpArgs false

set_option maxHeartbeats 32000000 in
theorem Rename_v (t : Tr) (cs : List Value) (h0 : Nat × Nat) (nm : Key) (to : Nat × Nat) (k : Key) (F : Nat → Prop) (w : World) (hT : Tabs w) (h : TrAt w F cs t) (hm : MayT t) :
    Calls Tryd.prog 33 #[.agg cs.toArray, .agg (hdC h0).toArray, sv nm, .agg (hdC to).toArray, sv k] w fun e w' => GivesT F (renameT t h0 nm to k) w e w' := by
  have hmix : Tryd.prog.follows .mixedOrders = true := by kernel_rfl
  obtain ⟨LN, L0⟩ := ren1_is hm h0 nm to k
  have HLZ := Lib.hid LN
  have HL0 := Lib.hid L0
  have hs256 : ren1 t h0 nm to k < 256 := by
    unfold ren1
    have := kind_lt (findT t.nodes h0) true
    have := kind_lt (findT t.nodes to) true
    unfold orS stOf
    repeat (first | omega | split)
  have HLT := Lib.hid hs256
  clear LN L0 hs256
  obtain ⟨L, hL⟩ : ∃ L, L = renameT t h0 nm to k := ⟨_, rfl⟩
  rw [← hL] at HLZ ⊢
  have HRL := Lib.hid hL
  clear hL
  have HSRT := Lib.hid (show ∀ d ∈ t.nodes, SortE d.names ∧ d.names.length ≤ 140737488355328 from fun d hd => ⟨(hm.ok d hd).sort, by have := (hm.ok d hd).many; omega⟩)
  have HTR := Lib.hid (show TrAt w (fun k => F k ∧ k < w.heap.size) cs t from h.mono fun k hk hF => ⟨hF, hk⟩)
  have HSM := Lib.hid (small_of hm h)
  have HT := Lib.hid hT
  have HM := Lib.hid hm
  have HLN := Lib.hid h.len
  obtain ⟨hr0, -⟩ := root_first hm
  have HR0 := Lib.hid hr0
  clear hT hm h hr0
  go_enter Tryd.func33, Tryd.ntmps33
  go_wp2_with (first
    | ((with_reducible show wpList _ _ _ _ _ w); refine wpList_boxS rfl 31 _ rfl cs rfl ?_; intro g1 w1 hk1 hb1 hg1; go_frame; have C1 := Lib.hid hk1; have B1 := Lib.hid hb1; clear hk1 hb1 hg1)
    | ((with_reducible show wpList _ _ _ _ _ w1); refine wpList_boxS rfl 39 _ rfl (hdC h0) rfl ?_; intro g2 w1b hk1 hb1 hg1; go_frame; have C2' := Lib.hid hk1; have B2' := Lib.hid (below_chain B1.out hb1); have C12' := Lib.hid (C1.out.below hb1 C1.out.lt); clear hk1 hb1 hg1)
    | ((with_reducible show wpList _ _ _ _ _ w1b); refine wpList_boxS rfl 39 _ rfl (hdC to) rfl ?_; intro g8 w2 hk1 hb1 hg1; go_frame; have C8 := Lib.hid hk1; have C2 := Lib.hid (C2'.out.below hb1 C2'.out.lt); have C12 := Lib.hid (C12'.out.below hb1 C12'.out.lt); have B2 := Lib.hid (below_chain B2'.out hb1); clear hk1 hb1 hg1)
    | ((with_reducible show wpList _ _ _ _ _ w2); refine wpList_allocS rfl 31 rfl treeZ treeZero ?_; intro g3 w3 hk1 hb1 hg1; go_frame; have C3 := Lib.hid hk1; have C23 := Lib.hid (C2.out.below hb1 C2.out.lt); have C83 := Lib.hid (C8.out.below hb1 C8.out.lt); have C13 := Lib.hid (C12.out.below hb1 C12.out.lt); have B3 := Lib.hid (below_chain B2.out hb1); have G3 := Lib.hid (Nat.le_trans B2.out.size hg1); clear hk1 hb1 hg1)
    | ((with_reducible show wpList _ _ _ _ _ w3); refine wpList_loadS rfl 31 _ rfl g1 rfl cs C13.out _ Tryd.underlying31 rfl (by rw [HLN.out]; exact infoTree) ?_; go_frame)
    | fail)
  refine (Copy_v t cs (fun k => F k ∧ k < w.heap.size) w3 (HTR.out.below B3.out) HSM.out fun k hk => Nat.lt_of_lt_of_le hk.2 B3.out.size).mono ?_
  rintro e w4 ⟨nv, ss, ls, S, rfl, hto, hb⟩
  have HTO := Lib.hid hto
  have B34 := Lib.hid hb
  have B4 := Lib.hid (below_chain B3.out hb)
  have C24 := Lib.hid (C23.out.below hb C23.out.lt)
  have C84 := Lib.hid (C83.out.below hb C83.out.lt)
  have C34 := Lib.hid (C3.out.below hb C3.out.lt)
  have K3 := Lib.hid C3.out.lt
  obtain ⟨g, c, hnv, hlo⟩ : ∃ g c, nv = .slice (some ⟨g, 0, none⟩) t.nodes.length c ∧ w3.heap.size ≤ g := by
    have hll : ls.length = t.nodes.length := by rw [← hto.nds, List.length_map]
    obtain ⟨g, c, e, h1, -⟩ := hto.own.shape (fun e => by rw [e] at hll; have := HR0.out; simp at hll; omega)
    exact ⟨g, c, by rw [e, hll], h1⟩
  have HTL := Lib.hid (show (trC nv t ss).length = 16 by unfold trC; simp only [List.length_cons, hto.len.2])
  have HTI := Lib.hid (show ∀ v ∈ trC nv t ss, v.oneCell' = true from (TrO.at1 hto).one)
  subst hnv
  clear hto hb hlo
  go_wp2_with (first
    | ((with_reducible show wpList _ _ _ _ _ w4); refine wpList_allocS rfl 31 rfl treeZ treeZero ?_; intro g4 w5 hk1 hb1 hg1; go_frame; have C45 := Lib.hid hk1; have B45 := Lib.hid hb1; have C25 := Lib.hid (C24.out.below hb1 C24.out.lt); have C85 := Lib.hid (C84.out.below hb1 C84.out.lt); have C35 := Lib.hid (C34.out.below hb1 C34.out.lt); have B5 := Lib.hid (below_chain B4.out hb1); have G4 := Lib.hid hg1; have K24 := Lib.hid C24.out.lt; have K34 := Lib.hid C34.out.lt; clear hk1 hb1 hg1)
    | ((with_reducible show wpList _ _ _ _ _ w5); refine wpList_storeS rfl 31 _ _ rfl g4 rfl (trC (.slice (some ⟨g, 0, none⟩) t.nodes.length c) t ss) treeZ rfl C45.out (by rw [HTL.out]; rfl) HTI.out (by rw [HTL.out]; exact infoTree) ?_; intro w6 hk2 ht2; go_frame; have hb46 : Below w4.heap.size w4 w6 := below_turn B45.out ht2 B45.out.size G4.out; have NX := Lib.hid (TrO.nx HTO.out hb46 hk2 G4.out (Nat.le_trans B34.out.size G4.out)); have B6 := Lib.hid (below_chain B4.out hb46); have C26 := Lib.hid (C24.out.below hb46 C24.out.lt); have C86 := Lib.hid (C84.out.below hb46 C84.out.lt); have C36 := Lib.hid (C34.out.below hb46 C34.out.lt); have q0 : w6.cell? ⟨g4, 0, none⟩ = some (.slice (some ⟨g, 0, none⟩) t.nodes.length c) := hk2.cell 0 rfl; clear hk2 ht2 hb46)
    | fail)
  clear q0
  go_wp2_with fail
  refine wp_region_V [] (fun u => Below w6.heap.size w6 u) hmix ((Below.refl _ _).drew) ?_
  change wpAnyV _ _ _ _ _ _ _ _ _
  refine wpAnyV_take (i := 0) (v := .pointer (some ⟨g4, 0, none⟩)) 20 (kept_below _) rfl (by kernel_rfl) (by kernel_rfl) (fun _ _ _ h => h) (fun _ h => h) (DoesV.reads (by rfl) fun w9 hS => by go_simp) ?_
  try simp only [List.getElem_toArray, List.getElem_cons_succ, List.getElem_cons_zero, Act.put, List.setIfInBounds_toArray, List.set_cons_succ, List.set_cons_zero]
  refine wpAnyV_take (i := 1) (v := .slice (some ⟨g, 0, none⟩) t.nodes.length c) 20 (kept_below _) rfl (by kernel_rfl) (by kernel_rfl) (fun _ _ _ h => h) (fun _ h => h) (DoesV.reads (by rfl) fun w9 hS => by have q0 : w9.cell? ⟨g4, 0, none⟩ = some (.slice (some ⟨g, 0, none⟩) t.nodes.length c) := (NX.out.below hS).o.box.cell 0 rfl; go_simp) ?_
  try simp only [List.getElem_toArray, List.getElem_cons_succ, List.getElem_cons_zero, Act.put, List.setIfInBounds_toArray, List.set_cons_succ, List.set_cons_zero]
  refine wpAnyV_take (i := 2) (v := .agg (hdC h0).toArray) 20 (kept_below _) rfl (by kernel_rfl) (by kernel_rfl) (fun _ _ _ h => h) (fun _ h => h) (DoesV.loadT (by rfl) 39 _ rfl g2 0 rfl (hdC h0) (fun w9 hS => At.whole (C26.out.below hS C26.out.lt)) _ Tryd.underlying39 rfl infoHandle13) ?_
  try simp only [List.getElem_toArray, List.getElem_cons_succ, List.getElem_cons_zero, Act.put, List.setIfInBounds_toArray, List.set_cons_succ, List.set_cons_zero]
  refine wpAnyV_take (i := 4) (v := .pointer (some ⟨g4, 0, none⟩)) 20 (kept_below _) rfl (by kernel_rfl) (by kernel_rfl) (fun _ _ _ h => h) (fun _ h => h) (DoesV.reads (by rfl) fun w9 hS => by go_simp) ?_
  try simp only [List.getElem_toArray, List.getElem_cons_succ, List.getElem_cons_zero, Act.put, List.setIfInBounds_toArray, List.set_cons_succ, List.set_cons_zero]
  refine wpAnyV_take (i := 5) (v := .slice (some ⟨g, 0, none⟩) t.nodes.length c) 20 (kept_below _) rfl (by kernel_rfl) (by kernel_rfl) (fun _ _ _ h => h) (fun _ h => h) (DoesV.reads (by rfl) fun w9 hS => by have q0 : w9.cell? ⟨g4, 0, none⟩ = some (.slice (some ⟨g, 0, none⟩) t.nodes.length c) := (NX.out.below hS).o.box.cell 0 rfl; go_simp) ?_
  try simp only [List.getElem_toArray, List.getElem_cons_succ, List.getElem_cons_zero, Act.put, List.setIfInBounds_toArray, List.set_cons_succ, List.set_cons_zero]
  refine wpAnyV_take (i := 6) (v := .agg (hdC to).toArray) 20 (kept_below _) rfl (by kernel_rfl) (by kernel_rfl) (fun _ _ _ h => h) (fun _ h => h) (DoesV.loadT (by rfl) 39 _ rfl g8 0 rfl (hdC to) (fun w9 hS => At.whole (C86.out.below hS C86.out.lt)) _ Tryd.underlying39 rfl infoHandle13) ?_
  try simp only [List.getElem_toArray, List.getElem_cons_succ, List.getElem_cons_zero, Act.put, List.setIfInBounds_toArray, List.set_cons_succ, List.set_cons_zero]
  refine wpAnyV_only (i := 3) rfl (by kernel_rfl) rfl (fun u hS => wp_of_call (f := 12) (args := #[.slice (some ⟨g, 0, none⟩) t.nodes.length c, .agg (hdC h0).toArray]) (by go_simp) (nodeOf_v t.nodes h0 (some ⟨g, 0, none⟩) c (w3.heap.size ≤ ·) u (by have := HM.out.many; omega) HM.out.rise (NX.out.below hS).rd.1) fun e u' hu => ?_)
  try simp only [List.getElem_toArray, List.getElem_cons_succ, List.getElem_cons_zero, Act.put, List.setIfInBounds_toArray, List.set_cons_succ, List.set_cons_zero]
  obtain ⟨⟨v1, he, hp⟩, hb⟩ := hu
  have Hv1 := Lib.hid hp
  refine ⟨v1, he, fun u => Below w6.heap.size w6 u, below_chain hS hb, kept_below _, fun _ _ h => h, ?_⟩
  clear hp hb he hS
  try simp only [List.getElem_toArray, List.getElem_cons_succ, List.getElem_cons_zero, Act.put, List.setIfInBounds_toArray, List.set_cons_succ, List.set_cons_zero]
  refine wpAnyV_only (i := 7) rfl (by kernel_rfl) rfl (fun u hS => wp_of_call (f := 12) (args := #[.slice (some ⟨g, 0, none⟩) t.nodes.length c, .agg (hdC to).toArray]) (by go_simp) (nodeOf_v t.nodes to (some ⟨g, 0, none⟩) c (w3.heap.size ≤ ·) u (by have := HM.out.many; omega) HM.out.rise (NX.out.below hS).rd.1) fun e u' hu => ?_)
  try simp only [List.getElem_toArray, List.getElem_cons_succ, List.getElem_cons_zero, Act.put, List.setIfInBounds_toArray, List.set_cons_succ, List.set_cons_zero]
  obtain ⟨⟨v2, he, hp⟩, hb⟩ := hu
  have Hv2 := Lib.hid hp
  refine ⟨v2, he, fun u => Below w6.heap.size w6 u, below_chain hS hb, kept_below _, fun _ _ h => h, ?_⟩
  clear hp hb he hS
  try simp only [List.getElem_toArray, List.getElem_cons_succ, List.getElem_cons_zero, Act.put, List.setIfInBounds_toArray, List.set_cons_succ, List.set_cons_zero]
  refine wpAnyV_only (i := 8) rfl (by kernel_rfl) rfl (fun u hS => wp_of_run2 (v := v1) (by go_simp) ⟨_, hS, kept_below _, fun _ _ h => h, ?_⟩)
  try simp only [List.getElem_toArray, List.getElem_cons_succ, List.getElem_cons_zero, Act.put, List.setIfInBounds_toArray, List.set_cons_succ, List.set_cons_zero]
  refine wpAnyV_only (i := 9) rfl (by kernel_rfl) rfl (fun u hS => wp_of_run2 (v := v2) (by go_simp) ⟨_, hS, kept_below _, fun _ _ h => h, ?_⟩)
  try simp only [List.getElem_toArray, List.getElem_cons_succ, List.getElem_cons_zero, Act.put, List.setIfInBounds_toArray, List.set_cons_succ, List.set_cons_zero]
  refine wpAnyV_done (by kernel_rfl) (fun w6b hz => ?_) _
  have B66 := Lib.hid hz
  clear hz
  have NX6b := Lib.hid (NX.out.below B66.out)
  go_wp2_with fail
  refine wp_region_V [] (fun u => Below w6b.heap.size w6b u) hmix ((Below.refl _ _).drew) ?_
  change wpAnyV _ _ _ _ _ _ _ _ _
  refine wpAnyV_take (i := 0) (v := .pointer (some ⟨g4, 0, none⟩)) 20 (kept_below _) rfl (by kernel_rfl) (by kernel_rfl) (fun _ _ _ h => h) (fun _ h => h) (DoesV.reads (by rfl) fun w9 hS => by go_simp) ?_
  try simp only [List.getElem_toArray, List.getElem_cons_succ, List.getElem_cons_zero, Act.put, List.setIfInBounds_toArray, List.set_cons_succ, List.set_cons_zero]
  refine wpAnyV_take (i := 1) (v := .slice (some ⟨g, 0, none⟩) t.nodes.length c) 20 (kept_below _) rfl (by kernel_rfl) (by kernel_rfl) (fun _ _ _ h => h) (fun _ h => h) (DoesV.reads (by rfl) fun w9 hS => by have q0 : w9.cell? ⟨g4, 0, none⟩ = some (.slice (some ⟨g, 0, none⟩) t.nodes.length c) := (NX6b.out.below hS).o.box.cell 0 rfl; go_simp) ?_
  try simp only [List.getElem_toArray, List.getElem_cons_succ, List.getElem_cons_zero, Act.put, List.setIfInBounds_toArray, List.set_cons_succ, List.set_cons_zero]
  refine wpAnyV_take (i := 2) (v := v1) 20 (kept_below _) rfl (by kernel_rfl) (by kernel_rfl) (fun _ _ _ h => h) (fun _ h => h) (DoesV.reads (by rfl) fun w9 hS => by go_simp) ?_
  try simp only [List.getElem_toArray, List.getElem_cons_succ, List.getElem_cons_zero, Act.put, List.setIfInBounds_toArray, List.set_cons_succ, List.set_cons_zero]
  refine wpAnyV_take (i := 3) (v := sv nm) 20 (kept_below _) rfl (by kernel_rfl) (by kernel_rfl) (fun _ _ _ h => h) (fun _ h => h) (DoesV.reads (by rfl) fun w9 hS => by go_simp) ?_
  try simp only [List.getElem_toArray, List.getElem_cons_succ, List.getElem_cons_zero, Act.put, List.setIfInBounds_toArray, List.set_cons_succ, List.set_cons_zero]
  refine wpAnyV_take (i := 5) (v := .pointer (some ⟨g4, 0, none⟩)) 20 (kept_below _) rfl (by kernel_rfl) (by kernel_rfl) (fun _ _ _ h => h) (fun _ h => h) (DoesV.reads (by rfl) fun w9 hS => by go_simp) ?_
  try simp only [List.getElem_toArray, List.getElem_cons_succ, List.getElem_cons_zero, Act.put, List.setIfInBounds_toArray, List.set_cons_succ, List.set_cons_zero]
  refine wpAnyV_take (i := 6) (v := .slice (some ⟨g, 0, none⟩) t.nodes.length c) 20 (kept_below _) rfl (by kernel_rfl) (by kernel_rfl) (fun _ _ _ h => h) (fun _ h => h) (DoesV.reads (by rfl) fun w9 hS => by have q0 : w9.cell? ⟨g4, 0, none⟩ = some (.slice (some ⟨g, 0, none⟩) t.nodes.length c) := (NX6b.out.below hS).o.box.cell 0 rfl; go_simp) ?_
  try simp only [List.getElem_toArray, List.getElem_cons_succ, List.getElem_cons_zero, Act.put, List.setIfInBounds_toArray, List.set_cons_succ, List.set_cons_zero]
  refine wpAnyV_take (i := 7) (v := v2) 20 (kept_below _) rfl (by kernel_rfl) (by kernel_rfl) (fun _ _ _ h => h) (fun _ h => h) (DoesV.reads (by rfl) fun w9 hS => by go_simp) ?_
  try simp only [List.getElem_toArray, List.getElem_cons_succ, List.getElem_cons_zero, Act.put, List.setIfInBounds_toArray, List.set_cons_succ, List.set_cons_zero]
  refine wpAnyV_take (i := 8) (v := sv k) 20 (kept_below _) rfl (by kernel_rfl) (by kernel_rfl) (fun _ _ _ h => h) (fun _ h => h) (DoesV.reads (by rfl) fun w9 hS => by go_simp) ?_
  try simp only [List.getElem_toArray, List.getElem_cons_succ, List.getElem_cons_zero, Act.put, List.setIfInBounds_toArray, List.set_cons_succ, List.set_cons_zero]
  refine wpAnyV_only (i := 4) rfl (by kernel_rfl) rfl (fun u hS => wp_of_call (f := 19) (args := #[.slice (some ⟨g, 0, none⟩) t.nodes.length c, v1, sv nm]) (by go_simp) (nodeNamed_v t.nodes (some ⟨g, 0, none⟩) c v1 (findT t.nodes h0) nm (w3.heap.size ≤ ·) u (by have := HM.out.many; omega) HM.out.rise HSRT.out (NX6b.out.below hS).rd.1 Hv1.out) fun e u' hu => ?_)
  try simp only [List.getElem_toArray, List.getElem_cons_succ, List.getElem_cons_zero, Act.put, List.setIfInBounds_toArray, List.set_cons_succ, List.set_cons_zero]
  obtain ⟨⟨v3, he, hp⟩, hb⟩ := hu
  have Hv3 := Lib.hid hp
  refine ⟨v3, he, fun u => Below w6b.heap.size w6b u, below_chain hS hb, kept_below _, fun _ _ h => h, ?_⟩
  clear hp hb he hS
  try simp only [List.getElem_toArray, List.getElem_cons_succ, List.getElem_cons_zero, Act.put, List.setIfInBounds_toArray, List.set_cons_succ, List.set_cons_zero]
  refine wpAnyV_only (i := 9) rfl (by kernel_rfl) rfl (fun u hS => wp_of_call (f := 19) (args := #[.slice (some ⟨g, 0, none⟩) t.nodes.length c, v2, sv k]) (by go_simp) (nodeNamed_v t.nodes (some ⟨g, 0, none⟩) c v2 (findT t.nodes to) k (w3.heap.size ≤ ·) u (by have := HM.out.many; omega) HM.out.rise HSRT.out (NX6b.out.below hS).rd.1 Hv2.out) fun e u' hu => ?_)
  try simp only [List.getElem_toArray, List.getElem_cons_succ, List.getElem_cons_zero, Act.put, List.setIfInBounds_toArray, List.set_cons_succ, List.set_cons_zero]
  obtain ⟨⟨v4, he, hp⟩, hb⟩ := hu
  have Hv4 := Lib.hid hp
  refine ⟨v4, he, fun u => Below w6b.heap.size w6b u, below_chain hS hb, kept_below _, fun _ _ h => h, ?_⟩
  clear hp hb he hS
  try simp only [List.getElem_toArray, List.getElem_cons_succ, List.getElem_cons_zero, Act.put, List.setIfInBounds_toArray, List.set_cons_succ, List.set_cons_zero]
  refine wpAnyV_only (i := 10) rfl (by kernel_rfl) rfl (fun u hS => wp_of_run2 (v := v3) (by go_simp) ⟨_, hS, kept_below _, fun _ _ h => h, ?_⟩)
  try simp only [List.getElem_toArray, List.getElem_cons_succ, List.getElem_cons_zero, Act.put, List.setIfInBounds_toArray, List.set_cons_succ, List.set_cons_zero]
  refine wpAnyV_only (i := 11) rfl (by kernel_rfl) rfl (fun u hS => wp_of_run2 (v := v4) (by go_simp) ⟨_, hS, kept_below _, fun _ _ h => h, ?_⟩)
  try simp only [List.getElem_toArray, List.getElem_cons_succ, List.getElem_cons_zero, Act.put, List.setIfInBounds_toArray, List.set_cons_succ, List.set_cons_zero]
  refine wpAnyV_done (by kernel_rfl) (fun w7 hz => ?_) _
  have B67 := Lib.hid hz
  clear hz
  have NX7 := Lib.hid (NX6b.out.below B67.out)
  have B7 := Lib.hid (below_chain B6.out (below_chain B66.out B67.out))
  have C37 := Lib.hid (C36.out.below (below_chain B66.out B67.out) C36.out.lt)
  have HMT := Lib.hid (May_at t _ _ w7 (HT.out.below B7.out) NX7.out.o.at HM.out)
  go_wp2_with (first
    | ((with_reducible show wpList _ _ _ _ _ w7); refine wpList_loadS rfl 31 _ rfl g4 rfl (trC (.slice (some ⟨g, 0, none⟩) t.nodes.length c) t ss) NX7.out.o.box _ Tryd.underlying31 rfl (by rw [HTL.out]; exact infoTree) ?_; go_frame)
    | fail)
  refine (mayBe_v (trC (.slice (some ⟨g, 0, none⟩) t.nodes.length c) t ss) w7 HTL.out fun W hW => HMT.out W (below_chain (Below.refl _ _) hW)).mono ?_
  rintro e a0 ⟨va0, rfl, k0, hA, hb⟩
  have A0_0 := Lib.hid (hA trivial)
  have KK0 := Lib.hid k0
  have BA0 := Lib.hid (hb)
  clear hA hb k0 
  go_wp2_with fail
  refine (isThere_v v1 1 (some ⟨g, 0, none⟩) t.nodes (findT t.nodes h0) a0 Hv1.out).mono ?_
  rintro e a1 ⟨va1, rfl, k1, hA, hb⟩
  have A1_1 := Lib.hid (hA trivial)
  have KK1 := Lib.hid k1
  have BA1 := Lib.hid (below_chain BA0.out hb)
  have A0_1 := Lib.hid (A0_0.out.later hb)
  clear hA hb k1 A0_0
  go_wp2_with fail
  refine (isThere_v v2 1 (some ⟨g, 0, none⟩) t.nodes (findT t.nodes to) a1 Hv2.out).mono ?_
  rintro e a2 ⟨va2, rfl, k2, hA, hb⟩
  have A2_2 := Lib.hid (hA trivial)
  have KK2 := Lib.hid k2
  have BA2 := Lib.hid (below_chain BA1.out hb)
  have A0_2 := Lib.hid (A0_1.out.later hb)
  have A1_2 := Lib.hid (A1_1.out.later hb)
  clear hA hb k2 A0_1 A1_1
  go_wp2_with fail
  refine (isKind_v v1 true (some ⟨g, 0, none⟩) t.nodes (findT t.nodes h0) (w3.heap.size ≤ ·) a2 (NX7.out.below BA2.out).rd.1 Hv1.out).mono ?_
  rintro e a3 ⟨va3, rfl, k3, hA, hb⟩
  have A3_3 := Lib.hid (hA trivial)
  have KK3 := Lib.hid k3
  have BA3 := Lib.hid (below_chain BA2.out hb)
  have A0_3 := Lib.hid (A0_2.out.later hb)
  have A1_3 := Lib.hid (A1_2.out.later hb)
  have A2_3 := Lib.hid (A2_2.out.later hb)
  clear hA hb k3 A0_2 A1_2 A2_2
  go_wp2_with fail
  refine (isKind_v v2 true (some ⟨g, 0, none⟩) t.nodes (findT t.nodes to) (w3.heap.size ≤ ·) a3 (NX7.out.below BA3.out).rd.1 Hv2.out).mono ?_
  rintro e a4 ⟨va4, rfl, k4, hA, hb⟩
  have A4_4 := Lib.hid (hA trivial)
  have KK4 := Lib.hid k4
  have BA4 := Lib.hid (below_chain BA3.out hb)
  have A0_4 := Lib.hid (A0_3.out.later hb)
  have A1_4 := Lib.hid (A1_3.out.later hb)
  have A2_4 := Lib.hid (A2_3.out.later hb)
  have A3_4 := Lib.hid (A3_3.out.later hb)
  clear hA hb k4 A0_3 A1_3 A2_3 A3_3
  go_wp2_with fail
  refine (isName_v nm a4 (HT.out.below (below_chain B7.out BA4.out))).mono ?_
  rintro e a5 ⟨va5, rfl, k5, hA, hb⟩
  have A5_5 := Lib.hid (hA trivial)
  have KK5 := Lib.hid k5
  have BA5 := Lib.hid (below_chain BA4.out hb)
  have A0_5 := Lib.hid (A0_4.out.later hb)
  have A1_5 := Lib.hid (A1_4.out.later hb)
  have A2_5 := Lib.hid (A2_4.out.later hb)
  have A3_5 := Lib.hid (A3_4.out.later hb)
  have A4_5 := Lib.hid (A4_4.out.later hb)
  clear hA hb k5 A0_4 A1_4 A2_4 A3_4 A4_4
  go_wp2_with fail
  refine (isName_v k a5 (HT.out.below (below_chain B7.out BA5.out))).mono ?_
  rintro e a6 ⟨va6, rfl, k6, hA, hb⟩
  have A6_6 := Lib.hid (hA trivial)
  have KK6 := Lib.hid k6
  have BA6 := Lib.hid (below_chain BA5.out hb)
  have A0_6 := Lib.hid (A0_5.out.later hb)
  have A1_6 := Lib.hid (A1_5.out.later hb)
  have A2_6 := Lib.hid (A2_5.out.later hb)
  have A3_6 := Lib.hid (A3_5.out.later hb)
  have A4_6 := Lib.hid (A4_5.out.later hb)
  have A5_6 := Lib.hid (A5_5.out.later hb)
  clear hA hb k6 A0_5 A1_5 A2_5 A3_5 A4_5 A5_5
  go_wp2_with fail
  refine (isThere_v v3 2 (some ⟨g, 0, none⟩) t.nodes (namedT t.nodes (findT t.nodes h0) nm) a6 Hv3.out).mono ?_
  rintro e a7 ⟨va7, rfl, k7, hA, hb⟩
  have A7_7 := Lib.hid (hA trivial)
  have KK7 := Lib.hid k7
  have BA7 := Lib.hid (below_chain BA6.out hb)
  have A0_7 := Lib.hid (A0_6.out.later hb)
  have A1_7 := Lib.hid (A1_6.out.later hb)
  have A2_7 := Lib.hid (A2_6.out.later hb)
  have A3_7 := Lib.hid (A3_6.out.later hb)
  have A4_7 := Lib.hid (A4_6.out.later hb)
  have A5_7 := Lib.hid (A5_6.out.later hb)
  have A6_7 := Lib.hid (A6_6.out.later hb)
  clear hA hb k7 A0_6 A1_6 A2_6 A3_6 A4_6 A5_6 A6_6
  go_wp2_with (first
    | ((with_reducible show wpList _ _ _ _ _ a7); refine wpList_asks8 rfl _ _ _ _ _ _ _ _ rfl va0 va1 va2 va3 va4 va5 va6 va7 rfl rfl rfl rfl rfl rfl rfl rfl KK0.out KK1.out KK2.out KK3.out KK4.out KK5.out KK6.out KK7.out ?_; intro gA wA hk1 hb1 hg1; go_frame; have CA := Lib.hid hk1; have Z0 := Lib.hid (A0_7.out.later hb1); have Z1 := Lib.hid (A1_7.out.later hb1); have Z2 := Lib.hid (A2_7.out.later hb1); have Z3 := Lib.hid (A3_7.out.later hb1); have Z4 := Lib.hid (A4_7.out.later hb1); have Z5 := Lib.hid (A5_7.out.later hb1); have Z6 := Lib.hid (A6_7.out.later hb1); have Z7 := Lib.hid (A7_7.out.later hb1); have BAA := Lib.hid (below_chain BA7.out hb1); clear hk1 hb1 hg1)
    | fail)
  refine (first_v [va0, va1, va2, va3, va4, va5, va6, va7] (ren1 t h0 nm to k) gA wA (by simp) CA.out (Chain.cons (by omega) Z0.out fun _ => (Chain.cons (st_lt _ (by omega)) Z1.out fun _ => (Chain.cons (st_lt _ (by omega)) Z2.out fun _ => (Chain.cons (kind_lt _ _) Z3.out fun _ => (Chain.cons (kind_lt _ _) Z4.out fun _ => (Chain.cons (st_lt _ (by omega)) Z5.out fun _ => (Chain.cons (st_lt _ (by omega)) Z6.out fun _ => (Chain.cons (st_lt _ (by omega)) Z7.out fun _ => rfl))))))))).mono ?_
  rintro e w8 ⟨rfl, hb⟩
  have B78 := Lib.hid (below_chain BAA.out hb)
  have NX8 := Lib.hid (NX7.out.below B78.out)
  have B8 := Lib.hid (below_chain B7.out B78.out)
  have C38 := Lib.hid (C37.out.below B78.out C37.out.lt)
  clear hb A0_7 A1_7 A2_7 A3_7 A4_7 A5_7 A6_7 A7_7 CA Z0 Z1 Z2 Z3 Z4 Z5 Z6 Z7 KK0 KK1 KK2 KK3 KK4 KK5 KK6 KK7
  obtain ⟨s1, hs1⟩ : ∃ s1, s1 = ren1 t h0 nm to k := ⟨_, rfl⟩
  have HS1 := Lib.hid hs1
  rw [← hs1] at HLZ HL0 HLT ⊢
  clear hs1
  by_cases hs : s1 = 0
  · have e0 : ((s1 : Int) != 0) = false := by rw [hs]; rfl
    obtain ⟨D1, D2, M, hd1, hd2, k1, k2, n1, n2, hx, hin, hM, hMn, hMo⟩ := HL0.out hs
    rw [hMo] at Hv3
    have HD1 := Lib.hid hd1
    have HD2 := Lib.hid hd2
    rw [hd1] at Hv1
    rw [hd2] at Hv2
    obtain ⟨o, ho⟩ : ∃ o, o = namedT t.nodes (findT t.nodes to) k := ⟨_, rfl⟩
    rw [← ho] at Hv4
    obtain ⟨q, hqr, hqi⟩ := eql_nodes HM.out.rise Hv3.out Hv4.out
    obtain ⟨i1, hi1, hI1, rfl⟩ := nodeP_at Hv1.out rfl
    obtain ⟨i2, hi2, hI2, rfl⟩ := nodeP_at Hv2.out rfl
    obtain ⟨jm, hjm, hJM, rfl⟩ := nodeP_at Hv3.out rfl
    obtain ⟨qa, hqa⟩ : ∃ qa : Bool, qa = true ↔ ¬ Under t.nodes t.nodes[jm].ino t.nodes[i2].ino := bool_of _
    have hqa' : qa = true ↔ ¬ Under t.nodes M.ino D2.ino := by rw [← hJM, ← hI2]; exact hqa
    obtain ⟨RE, RN⟩ := ren2_is HM.out hd1 hd2 k1 k2 n1 n2 hx hM hMn (k := k) (o := o) (by rw [← hd2]; exact ho.symm) hqa'
    rw [← HRL.out] at RE RN
    have HRE := Lib.hid RE
    have HRN := Lib.hid RN
    have HII1 := Lib.hid hI1
    have HII2 := Lib.hid hI2
    have HJM := Lib.hid hJM
    have HQA := Lib.hid hqa
    have HQI := Lib.hid hqi
    have HIN := Lib.hid hin
    have HN2 := Lib.hid (name_len n2)
    have HA1 := Lib.hid (show D1.ino = h0.1 from ((findT_some HM.out.rise).1 hd1).2.1)
    have HA2 := Lib.hid (show D2.ino = to.1 from ((findT_some HM.out.rise).1 hd2).2.1)
    have HK1 := Lib.hid ((HM.out.ok D1 (by rw [← hI1]; exact List.getElem_mem hi1)).isDir k1)
    have HK2 := Lib.hid ((HM.out.ok D2 (by rw [← hI2]; exact List.getElem_mem hi2)).isDir k2)
    have HS1e := Lib.hid (show SortE D1.names ∧ D1.names.length ≤ 1000 by rw [← hI1]; exact ⟨(HSRT.out _ (List.getElem_mem hi1)).1, by have := (HM.out.ok _ (List.getElem_mem hi1)).many; omega⟩)
    have HS2e := Lib.hid (show SortE D2.names ∧ D2.names.length ≤ 1000 by rw [← hI2]; exact ⟨(HSRT.out _ (List.getElem_mem hi2)).1, by have := (HM.out.ok _ (List.getElem_mem hi2)).many; omega⟩)
    obtain ⟨dv3, ev3, hat3, -, -, hin3, -⟩ := nd_head NX8.out.rd.1 hjm
    rw [Nat.zero_add, hJM] at hat3
    rw [hJM] at hin3
    obtain ⟨md, hmd⟩ : ∃ md, md = M.dir := ⟨_, rfl⟩
    have HMD := Lib.hid hmd
    have QD := Lib.hid (show w8.cell? ⟨g, jm * 6 + 2, none⟩ = some (.bool md) by have := hat3 2 _ rfl; rw [hmd]; exact this)
    have HM32 := Lib.hid hin3
    have HS0 := Lib.hid hs
    have HO := Lib.hid ho
    have hq8 := hqr w8
    clear RE RN hI1 hI2 hJM hqa hqa' hqi hin hd1 hd2 k1 k2 n1 n2 hx hM hMn hMo hat3 hin3 hmd hs ho hqr HL0 HLZ
    cases q
    · have HNE := Lib.hid (show o ≠ some M from fun e => by have := HQI.out.2 e; cases this)
      have HR2 := Lib.hid (HRN.out HNE.out)
      clear HRE HRN HQI HNE
      go_wp2_with fail
      clear hq8
      refine wp_region_V [] (fun u => Below w8.heap.size w8 u) hmix ((Below.refl _ _).drew) ?_
      change wpAnyV _ _ _ _ _ _ _ _ _
      refine wpAnyV_take (i := 0) (v := v4) 12 (kept_below _) rfl (by kernel_rfl) (by kernel_rfl) (fun _ _ _ h => h) (fun _ h => h) (DoesV.reads (by rfl) fun w9 hS => by go_simp) ?_
      try simp only [List.getElem_toArray, List.getElem_cons_succ, List.getElem_cons_zero, Act.put, List.setIfInBounds_toArray, List.set_cons_succ, List.set_cons_zero]
      refine wpAnyV_take (i := 1) (v := .pointer (some ⟨g, jm * 6, none⟩)) 12 (kept_below _) rfl (by kernel_rfl) (by kernel_rfl) (fun _ _ _ h => h) (fun _ h => h) (DoesV.reads (by rfl) fun w9 hS => by go_simp) ?_
      try simp only [List.getElem_toArray, List.getElem_cons_succ, List.getElem_cons_zero, Act.put, List.setIfInBounds_toArray, List.set_cons_succ, List.set_cons_zero]
      refine wpAnyV_take (i := 2) (v := .pointer (some ⟨g, jm * 6, none⟩)) 12 (kept_below _) rfl (by kernel_rfl) (by kernel_rfl) (fun _ _ _ h => h) (fun _ h => h) (DoesV.reads (by rfl) fun w9 hS => by go_simp) ?_
      try simp only [List.getElem_toArray, List.getElem_cons_succ, List.getElem_cons_zero, Act.put, List.setIfInBounds_toArray, List.set_cons_succ, List.set_cons_zero]
      refine wpAnyV_take (i := 3) (v := .pointer (some ⟨g, jm * 6 + 2, none⟩)) 12 (kept_below _) rfl (by kernel_rfl) (by kernel_rfl) (fun _ _ _ h => h) (fun _ h => h) (DoesV.reads (by rfl) fun w9 hS => by go_simp) ?_
      try simp only [List.getElem_toArray, List.getElem_cons_succ, List.getElem_cons_zero, Act.put, List.setIfInBounds_toArray, List.set_cons_succ, List.set_cons_zero]
      refine wpAnyV_take (i := 4) (v := .bool md) 12 (kept_below _) rfl (by kernel_rfl) (by kernel_rfl) (fun _ _ _ h => h) (fun _ h => h) (DoesV.reads (by rfl) fun w9 hS => by have q1 : w9.cell? ⟨g, jm * 6 + 2, none⟩ = some (.bool md) := (hS.cell (lt_of_cell QD.out)).trans QD.out; go_simp) ?_
      try simp only [List.getElem_toArray, List.getElem_cons_succ, List.getElem_cons_zero, Act.put, List.setIfInBounds_toArray, List.set_cons_succ, List.set_cons_zero]
      refine wpAnyV_take (i := 6) (v := v4) 12 (kept_below _) rfl (by kernel_rfl) (by kernel_rfl) (fun _ _ _ h => h) (fun _ h => h) (DoesV.reads (by rfl) fun w9 hS => by go_simp) ?_
      try simp only [List.getElem_toArray, List.getElem_cons_succ, List.getElem_cons_zero, Act.put, List.setIfInBounds_toArray, List.set_cons_succ, List.set_cons_zero]
      refine wpAnyV_take (i := 8) (v := .pointer (some ⟨g4, 0, none⟩)) 12 (kept_below _) rfl (by kernel_rfl) (by kernel_rfl) (fun _ _ _ h => h) (fun _ h => h) (DoesV.reads (by rfl) fun w9 hS => by go_simp) ?_
      try simp only [List.getElem_toArray, List.getElem_cons_succ, List.getElem_cons_zero, Act.put, List.setIfInBounds_toArray, List.set_cons_succ, List.set_cons_zero]
      refine wpAnyV_take (i := 9) (v := .slice (some ⟨g, 0, none⟩) t.nodes.length c) 12 (kept_below _) rfl (by kernel_rfl) (by kernel_rfl) (fun _ _ _ h => h) (fun _ h => h) (DoesV.reads (by rfl) fun w9 hS => by have q0 : w9.cell? ⟨g4, 0, none⟩ = some (.slice (some ⟨g, 0, none⟩) t.nodes.length c) := (NX8.out.below hS).o.box.cell 0 rfl; go_simp) ?_
      try simp only [List.getElem_toArray, List.getElem_cons_succ, List.getElem_cons_zero, Act.put, List.setIfInBounds_toArray, List.set_cons_succ, List.set_cons_zero]
      refine wpAnyV_take (i := 10) (v := .pointer (some ⟨g, i2 * 6, none⟩)) 12 (kept_below _) rfl (by kernel_rfl) (by kernel_rfl) (fun _ _ _ h => h) (fun _ h => h) (DoesV.reads (by rfl) fun w9 hS => by go_simp) ?_
      try simp only [List.getElem_toArray, List.getElem_cons_succ, List.getElem_cons_zero, Act.put, List.setIfInBounds_toArray, List.set_cons_succ, List.set_cons_zero]
      refine wpAnyV_take (i := 11) (v := .pointer (some ⟨g, jm * 6, none⟩)) 12 (kept_below _) rfl (by kernel_rfl) (by kernel_rfl) (fun _ _ _ h => h) (fun _ h => h) (DoesV.reads (by rfl) fun w9 hS => by go_simp) ?_
      try simp only [List.getElem_toArray, List.getElem_cons_succ, List.getElem_cons_zero, Act.put, List.setIfInBounds_toArray, List.set_cons_succ, List.set_cons_zero]
      refine wpAnyV_take (i := 13) (v := .pointer (some ⟨g, i2 * 6, none⟩)) 12 (kept_below _) rfl (by kernel_rfl) (by kernel_rfl) (fun _ _ _ h => h) (fun _ h => h) (DoesV.reads (by rfl) fun w9 hS => by go_simp) ?_
      try simp only [List.getElem_toArray, List.getElem_cons_succ, List.getElem_cons_zero, Act.put, List.setIfInBounds_toArray, List.set_cons_succ, List.set_cons_zero]
      refine wpAnyV_take (i := 14) (v := .pointer (some ⟨g, i1 * 6, none⟩)) 12 (kept_below _) rfl (by kernel_rfl) (by kernel_rfl) (fun _ _ _ h => h) (fun _ h => h) (DoesV.reads (by rfl) fun w9 hS => by go_simp) ?_
      try simp only [List.getElem_toArray, List.getElem_cons_succ, List.getElem_cons_zero, Act.put, List.setIfInBounds_toArray, List.set_cons_succ, List.set_cons_zero]
      refine wpAnyV_take (i := 15) (v := v4) 12 (kept_below _) rfl (by kernel_rfl) (by kernel_rfl) (fun _ _ _ h => h) (fun _ h => h) (DoesV.reads (by rfl) fun w9 hS => by go_simp) ?_
      try simp only [List.getElem_toArray, List.getElem_cons_succ, List.getElem_cons_zero, Act.put, List.setIfInBounds_toArray, List.set_cons_succ, List.set_cons_zero]
      refine wpAnyV_take (i := 17) (v := .agg (trC (.slice (some ⟨g, 0, none⟩) t.nodes.length c) t ss).toArray) 12 (kept_below _) rfl (by kernel_rfl) (by kernel_rfl) (fun _ _ _ h => h) (fun _ h => h) (DoesV.loadT (by rfl) 31 _ rfl g4 0 rfl (trC (.slice (some ⟨g, 0, none⟩) t.nodes.length c) t ss) (fun w9 hS => At.whole (NX8.out.below hS).o.box) _ Tryd.underlying31 rfl (by rw [HTL.out]; exact infoTree)) ?_
      try simp only [List.getElem_toArray, List.getElem_cons_succ, List.getElem_cons_zero, Act.put, List.setIfInBounds_toArray, List.set_cons_succ, List.set_cons_zero]
      refine wpAnyV_only (i := 5) rfl (by kernel_rfl) rfl (fun u hS => wp_of_call (f := 16) (args := #[v4, .bool md]) (by go_simp) (isKind_v v4 md (some ⟨g, 0, none⟩) t.nodes o (w3.heap.size ≤ ·) u (NX8.out.below (hS)).rd.1 Hv4.out) fun e u' hu => ?_)
      try simp only [List.getElem_toArray, List.getElem_cons_succ, List.getElem_cons_zero, Act.put, List.setIfInBounds_toArray, List.set_cons_succ, List.set_cons_zero]
      obtain ⟨va0, he, kva0, hA, hb⟩ := hu
      have Ova0 := Lib.hid kva0
      have Qva0 : (fun u => Below w8.heap.size w8 u) u' := (kept_below _) _ _ hS hb
      refine ⟨va0, he, fun z => (Below w8.heap.size w8 z) ∧ (True → AskV z va0 (kindS o md)), ⟨Qva0, hA⟩, kept_and (kept_below _) (kept_ask _ _ _), fun _ _ h => h.1, ?_⟩
      clear hA hb he kva0 hS Qva0
      try simp only [List.getElem_toArray, List.getElem_cons_succ, List.getElem_cons_zero, Act.put, List.setIfInBounds_toArray, List.set_cons_succ, List.set_cons_zero]
      refine wpAnyV_only (i := 7) rfl (by kernel_rfl) rfl (fun u hS => wp_of_call (f := 55) (args := #[v4]) (by go_simp) (isEmpty_v v4 (some ⟨g, 0, none⟩) t.nodes o (w3.heap.size ≤ ·) u (NX8.out.below (hS.1)).rd.1 Hv4.out) fun e u' hu => ?_)
      try simp only [List.getElem_toArray, List.getElem_cons_succ, List.getElem_cons_zero, Act.put, List.setIfInBounds_toArray, List.set_cons_succ, List.set_cons_zero]
      obtain ⟨va1, he, kva1, hA, hb⟩ := hu
      have Ova1 := Lib.hid kva1
      have Qva1 : (fun u => (Below w8.heap.size w8 u) ∧ (True → AskV u va0 (kindS o md))) u' := (kept_and (kept_below _) (kept_ask _ _ _)) _ _ hS hb
      refine ⟨va1, he, fun z => ((Below w8.heap.size w8 z) ∧ (True → AskV z va0 (kindS o md))) ∧ (True → AskV z va1 (stOf (emptyO o) 6)), ⟨Qva1, hA⟩, kept_and (kept_and (kept_below _) (kept_ask _ _ _)) (kept_ask _ _ _), fun _ _ h => h.1, ?_⟩
      clear hA hb he kva1 hS Qva1
      try simp only [List.getElem_toArray, List.getElem_cons_succ, List.getElem_cons_zero, Act.put, List.setIfInBounds_toArray, List.set_cons_succ, List.set_cons_zero]
      refine wpAnyV_only (i := 12) rfl (by kernel_rfl) rfl (fun u hS => wp_of_call (f := 58) (args := #[.slice (some ⟨g, 0, none⟩) t.nodes.length c, .pointer (some ⟨g, i2 * 6, none⟩), .pointer (some ⟨g, jm * 6, none⟩)]) (by go_simp) (isAside_v t g c i2 jm (w3.heap.size ≤ ·) u HM.out hi2 hjm (NX8.out.below (hS.1.1)).rd.1 qa HQA.out) fun e u' hu => ?_)
      try simp only [List.getElem_toArray, List.getElem_cons_succ, List.getElem_cons_zero, Act.put, List.setIfInBounds_toArray, List.set_cons_succ, List.set_cons_zero]
      obtain ⟨va2, he, kva2, hA, hb⟩ := hu
      have Ova2 := Lib.hid kva2
      have Qva2 : (fun u => ((Below w8.heap.size w8 u) ∧ (True → AskV u va0 (kindS o md))) ∧ (True → AskV u va1 (stOf (emptyO o) 6))) u' := (kept_and (kept_and (kept_below _) (kept_ask _ _ _)) (kept_ask _ _ _)) _ _ hS hb
      refine ⟨va2, he, fun z => (((Below w8.heap.size w8 z) ∧ (True → AskV z va0 (kindS o md))) ∧ (True → AskV z va1 (stOf (emptyO o) 6))) ∧ (True → AskV z va2 (stOf qa 9)), ⟨Qva2, hA⟩, kept_and (kept_and (kept_and (kept_below _) (kept_ask _ _ _)) (kept_ask _ _ _)) (kept_ask _ _ _), fun _ _ h => h.1, ?_⟩
      clear hA hb he kva2 hS Qva2
      try simp only [List.getElem_toArray, List.getElem_cons_succ, List.getElem_cons_zero, Act.put, List.setIfInBounds_toArray, List.set_cons_succ, List.set_cons_zero]
      refine wpAnyV_only (i := 16) rfl (by kernel_rfl) rfl (fun u hS => wp_of_call (f := 21) (args := #[.pointer (some ⟨g, i2 * 6, none⟩), .pointer (some ⟨g, i1 * 6, none⟩), v4]) (by go_simp) (hasEntry_v (.pointer (some ⟨g, i2 * 6, none⟩)) (.pointer (some ⟨g, i1 * 6, none⟩)) v4 (some ⟨g, 0, none⟩) t.nodes (some D2) (some D1) o (w3.heap.size ≤ ·) u HM.out.rise (NX8.out.below (hS.1.1.1)).rd.1 (fun n hn => by have := (HM.out.ok n hn).many; omega) Hv2.out Hv1.out Hv4.out) fun e u' hu => ?_)
      try simp only [List.getElem_toArray, List.getElem_cons_succ, List.getElem_cons_zero, Act.put, List.setIfInBounds_toArray, List.set_cons_succ, List.set_cons_zero]
      obtain ⟨va3, he, kva3, hA, hb⟩ := hu
      have Ova3 := Lib.hid kva3
      have Qva3 : (fun u => (((Below w8.heap.size w8 u) ∧ (True → AskV u va0 (kindS o md))) ∧ (True → AskV u va1 (stOf (emptyO o) 6))) ∧ (True → AskV u va2 (stOf qa 9))) u' := (kept_and (kept_and (kept_and (kept_below _) (kept_ask _ _ _)) (kept_ask _ _ _)) (kept_ask _ _ _)) _ _ hS hb
      refine ⟨va3, he, fun z => ((((Below w8.heap.size w8 z) ∧ (True → AskV z va0 (kindS o md))) ∧ (True → AskV z va1 (stOf (emptyO o) 6))) ∧ (True → AskV z va2 (stOf qa 9))) ∧ ((some D2).isSome = true → AskV z va3 (stOf (roomB (some D2) (some D1) o) 7)), ⟨Qva3, hA⟩, kept_and (kept_and (kept_and (kept_and (kept_below _) (kept_ask _ _ _)) (kept_ask _ _ _)) (kept_ask _ _ _)) (kept_ask _ _ _), fun _ _ h => h.1, ?_⟩
      clear hA hb he kva3 hS Qva3
      try simp only [List.getElem_toArray, List.getElem_cons_succ, List.getElem_cons_zero, Act.put, List.setIfInBounds_toArray, List.set_cons_succ, List.set_cons_zero]
      refine wpAnyV_only (i := 18) rfl (by kernel_rfl) rfl (fun u hS => wp_of_call (f := 23) (args := #[.agg (trC (.slice (some ⟨g, 0, none⟩) t.nodes.length c) t ss).toArray]) (by go_simp) (hasCount_v _ t (w3.heap.size ≤ ·) u (NX8.out.below (hS.1.1.1.1)).o.at) fun e u' hu => ?_)
      try simp only [List.getElem_toArray, List.getElem_cons_succ, List.getElem_cons_zero, Act.put, List.setIfInBounds_toArray, List.set_cons_succ, List.set_cons_zero]
      obtain ⟨va4, he, kva4, hA, hb⟩ := hu
      have Ova4 := Lib.hid kva4
      have Qva4 : (fun u => ((((Below w8.heap.size w8 u) ∧ (True → AskV u va0 (kindS o md))) ∧ (True → AskV u va1 (stOf (emptyO o) 6))) ∧ (True → AskV u va2 (stOf qa 9))) ∧ ((some D2).isSome = true → AskV u va3 (stOf (roomB (some D2) (some D1) o) 7))) u' := (kept_and (kept_and (kept_and (kept_and (kept_below _) (kept_ask _ _ _)) (kept_ask _ _ _)) (kept_ask _ _ _)) (kept_ask _ _ _)) _ _ hS hb
      refine ⟨va4, he, fun z => (((((Below w8.heap.size w8 z) ∧ (True → AskV z va0 (kindS o md))) ∧ (True → AskV z va1 (stOf (emptyO o) 6))) ∧ (True → AskV z va2 (stOf qa 9))) ∧ ((some D2).isSome = true → AskV z va3 (stOf (roomB (some D2) (some D1) o) 7))) ∧ (True → AskV z va4 (stOf (decide (t.count < 2147483648)) 7)), ⟨Qva4, hA⟩, kept_and (kept_and (kept_and (kept_and (kept_and (kept_below _) (kept_ask _ _ _)) (kept_ask _ _ _)) (kept_ask _ _ _)) (kept_ask _ _ _)) (kept_ask _ _ _), fun _ _ h => h.1, ?_⟩
      clear hA hb he kva4 hS Qva4
      try simp only [List.getElem_toArray, List.getElem_cons_succ, List.getElem_cons_zero, Act.put, List.setIfInBounds_toArray, List.set_cons_succ, List.set_cons_zero]
      refine wpAnyV_only (i := 19) rfl (by kernel_rfl) rfl (fun ub hS => wp_of_run2 (run_asks5 rfl rfl rfl rfl rfl rfl Ova0.out Ova1.out Ova2.out Ova3.out Ova4.out) ⟨fun z => (fun u => (((((Below w8.heap.size w8 u) ∧ (True → AskV u va0 (kindS o md))) ∧ (True → AskV u va1 (stOf (emptyO o) 6))) ∧ (True → AskV u va2 (stOf qa 9))) ∧ ((some D2).isSome = true → AskV u va3 (stOf (roomB (some D2) (some D1) o) 7))) ∧ (True → AskV u va4 (stOf (decide (t.count < 2147483648)) 7))) z ∧ Cs z ub.heap.size 55 #[va0, va1, va2, va3, va4], ⟨(kept_and (kept_and (kept_and (kept_and (kept_and (kept_below _) (kept_ask _ _ _)) (kept_ask _ _ _)) (kept_ask _ _ _)) (kept_ask _ _ _)) (kept_ask _ _ _)) _ _ hS ((Below.refl _ _).alloc (Nat.le_refl _) _), Cs.new _ _ _⟩, kept_and (kept_and (kept_and (kept_and (kept_and (kept_and (kept_below _) (kept_ask _ _ _)) (kept_ask _ _ _)) (kept_ask _ _ _)) (kept_ask _ _ _)) (kept_ask _ _ _)) (kept_cs _ _ _), fun _ _ h => h.1, ?_⟩)
      try simp only [List.getElem_toArray, List.getElem_cons_succ, List.getElem_cons_zero, Act.put, List.setIfInBounds_toArray, List.set_cons_succ, List.set_cons_zero]
      refine wpAnyV_only (i := 20) rfl (by kernel_rfl) rfl (fun u hS => wp_of_call (f := 13) (args := #[.slice (some ⟨ub.heap.size, 0, none⟩) 5 5]) (by go_simp) (first_v [va0, va1, va2, va3, va4] (orS (kindS o md) (orS (stOf (emptyO o) 6) (orS (stOf qa 9) (orS (stOf (roomB (some D2) (some D1) o) 7) (orS (stOf (decide (t.count < 2147483648)) 7) 0))))) ub.heap.size u (by simp) hS.2 (Chain.cons (kind_lt _ _) (hS.1.1.1.1.1.2 trivial) fun z0 => (Chain.cons (st_lt _ (by omega)) (hS.1.1.1.1.2 trivial) fun z1 => (Chain.cons (st_lt _ (by omega)) (hS.1.1.1.2 trivial) fun z2 => (Chain.cons (st_lt _ (by omega)) (hS.1.1.2 rfl) fun z3 => (Chain.cons (st_lt _ (by omega)) (hS.1.2 trivial) fun z4 => rfl)))))) fun e u' ⟨he, hb⟩ => ⟨_, he, _, (kept_and (kept_and (kept_and (kept_and (kept_and (kept_and (kept_below _) (kept_ask _ _ _)) (kept_ask _ _ _)) (kept_ask _ _ _)) (kept_ask _ _ _)) (kept_ask _ _ _)) (kept_cs _ _ _)) _ _ hS hb, kept_and (kept_and (kept_and (kept_and (kept_and (kept_and (kept_below _) (kept_ask _ _ _)) (kept_ask _ _ _)) (kept_ask _ _ _)) (kept_ask _ _ _)) (kept_ask _ _ _)) (kept_cs _ _ _), fun _ _ h => h, ?_⟩)
      try simp only [List.getElem_toArray, List.getElem_cons_succ, List.getElem_cons_zero, Act.put, List.setIfInBounds_toArray, List.set_cons_succ, List.set_cons_zero]
      refine wpAnyV_only (i := 21) rfl (by kernel_rfl) rfl (fun u hS => wp_of_run2 (v := .int .u8 (((orS (kindS o md) (orS (stOf (emptyO o) 6) (orS (stOf qa 9) (orS (stOf (roomB (some D2) (some D1) o) 7) (orS (stOf (decide (t.count < 2147483648)) 7) 0))))) : Nat) : Int)) (by go_simp) ⟨_, hS, kept_and (kept_and (kept_and (kept_and (kept_and (kept_and (kept_below _) (kept_ask _ _ _)) (kept_ask _ _ _)) (kept_ask _ _ _)) (kept_ask _ _ _)) (kept_ask _ _ _)) (kept_cs _ _ _), fun _ _ h => h, ?_⟩)
      try simp only [List.getElem_toArray, List.getElem_cons_succ, List.getElem_cons_zero, Act.put, List.setIfInBounds_toArray, List.set_cons_succ, List.set_cons_zero]
      refine wpAnyV_done (by kernel_rfl) (fun w9 hz => ?_) _
      have B89 := Lib.hid hz.1.1.1.1.1.1
      clear hz
      have NX9 := Lib.hid (NX8.out.below B89.out)
      have B9 := Lib.hid (below_chain B8.out B89.out)
      have C39' := Lib.hid (C38.out.below B89.out C38.out.lt)
      obtain ⟨s2, hs2⟩ : ∃ s2, s2 = ren2 t (some D1) (some D2) o M qa := ⟨_, rfl⟩
      have hs3 : (orS (kindS o md) (orS (stOf (emptyO o) 6) (orS (stOf qa 9) (orS (stOf (roomB (some D2) (some D1) o) 7) (orS (stOf (decide (t.count < 2147483648)) 7) 0))))) = s2 := by rw [hs2, HMD.out]; rfl
      rw [hs3]
      clear hs3
      rw [← hs2] at HR2
      have HLT2 := Lib.hid (show s2 < 256 by
        rw [hs2]
        unfold ren2
        have := kind_lt o M.dir
        unfold orS stOf
        repeat (first | omega | split))
      clear hs2
      by_cases hs : s2 = 0
      · have e0 : ((s2 : Int) != 0) = false := by rw [hs]; rfl
        obtain ⟨hL, hct, hin2, hem, hnb⟩ := HR2.out.2 hs
        have HL := Lib.hid hL
        have HNB := Lib.hid hnb
        clear hL hin2 hem hnb
        go_wp2_with fail
        refine (NX9.out.cutE HM.out.rise hi1 (by rw [HII1.out]; exact HK1.out) (by rw [HII1.out]; exact HS1e.out.1) (by rw [HII1.out]; exact HS1e.out.2) nm M.ino (by rw [HII1.out]; exact HIN.out)).mono ?_
        rintro e w10 ⟨rfl, ⟨ls1, hx1⟩, ht1⟩
        obtain ⟨l1, hl1⟩ : ∃ l1, l1 = updN t.nodes h0.1 fun m => { m with names := lessE m.names nm } := ⟨_, rfl⟩
        rw [HII1.out, HA1.out, ← hl1] at hx1
        have NX10 := Lib.hid hx1
        have T10 := Lib.hid ht1
        have HST1 := Lib.hid (show SortN l1 by rw [hl1]; exact updN_sort (by intro m; rfl) HM.out.rise)
        have HL1 := Lib.hid (show l1.length = t.nodes.length by rw [hl1, updN_len])
        have HJ1 := Lib.hid (show ∀ j (hj : j < l1.length) (hj' : j < t.nodes.length), l1[j].ino = t.nodes[j].ino from fun j hj hj' => inos_at (show inosL l1 = inosL t.nodes by rw [hl1]; exact updN_inos _ (by intro m; rfl) _ _) hj hj')
        have hi2' : i2 < l1.length := by rw [HL1.out]; exact hi2
        have HN1 := Lib.hid (show l1[i2].data = [] ∧ SortE l1[i2].names ∧ l1[i2].names.length ≤ 1000 by
          have e1 : l1[i2] = if t.nodes[i2].ino = h0.1 then { t.nodes[i2] with names := lessE t.nodes[i2].names nm } else t.nodes[i2] := by subst hl1; exact updN_get hi2 hi2'
          have e2 := HII2.out
          have e3 := HS2e.out
          have e4 := HK2.out
          rw [e1, e2]
          split
          · refine ⟨e4, lessE_sort e3.1 nm, Nat.le_trans ?_ e3.2⟩
            show (lessE D2.names nm).length ≤ D2.names.length
            exact List.length_filter_le _ _
          · exact ⟨e4, e3⟩)
        have HEL1 := Lib.hid hl1
        have hj1 : jm < l1.length := by rw [HL1.out]; exact hjm
        have HJM1 := Lib.hid (show l1[jm].ino = M.ino by rw [HJ1.out jm hj1 hjm, HJM.out])
        have HI21 := Lib.hid (show l1[i2].ino = to.1 by rw [HJ1.out i2 hi2' hi2, HII2.out, HA2.out])
        have q1 : w10.cell? ⟨g, jm * 6, none⟩ = some (.int .u32 (M.ino : Int)) := by
          obtain ⟨dv, ev, hat, -⟩ := nd_head NX10.out.rd.1 (i := jm) hj1
          have := hat 0 _ rfl
          rw [Nat.zero_add, Nat.add_zero] at this
          rw [← HJM1.out]
          exact this
        have C3a := Lib.hid (C39'.out.turn T10.out (fun hk => by have := K3.out; omega))
        have B10 := Lib.hid (show Below w.heap.size w w10 from B9.out.trans (Turn.below T10.out B9.out.size fun q hk => by have := B3.out.size; omega))
        clear hx1 ht1 hl1
        go_wp2_with fail
        clear q1
        refine (NX10.out.setE HST1.out hi2' HN1.out.1 HN1.out.2.1 HN1.out.2.2 k M.ino (by have := HN2.out; omega) HM32.out).mono ?_
        rintro e w11 ⟨rfl, ⟨ls2, hx2⟩, ht2⟩
        obtain ⟨l2, hl2⟩ : ∃ l2, l2 = updN l1 to.1 fun m => { m with names := setE m.names k M.ino } := ⟨_, rfl⟩
        have HX2 := Lib.hid (show NxB w11 w3.heap.size g4 (.slice (some ⟨g, 0, none⟩) t.nodes.length c) ss { t with nodes := updN l1 l1[i2].ino fun m => { m with names := setE m.names k M.ino } } ls2 S from hx2)
        have NX11 := Lib.hid (show NxB w11 w3.heap.size g4 (.slice (some ⟨g, 0, none⟩) t.nodes.length c) ss { t with nodes := l2 } ls2 S by have := HX2.out; rw [HI21.out, ← hl2] at this; exact this)
        have T11 := Lib.hid ht2
        have HST2 := Lib.hid (show SortN l2 by rw [hl2]; exact updN_sort (by intro m; rfl) HST1.out)
        have HL2 := Lib.hid (show l2.length = t.nodes.length by rw [hl2, updN_len, HL1.out])
        have HJ2 := Lib.hid (show ∀ j (hj : j < l2.length) (hj' : j < t.nodes.length), l2[j].ino = t.nodes[j].ino from fun j hj hj' => by
          have h1 : j < l1.length := by rw [HL1.out]; exact hj'
          rw [inos_at (show inosL l2 = inosL l1 by rw [hl2]; exact updN_inos _ (by intro m; rfl) _ _) hj h1, HJ1.out j h1 hj'])
        have HEL2 := Lib.hid hl2
        have C3b := Lib.hid (C3a.out.turn T11.out (fun hk => by have := K3.out; omega))
        have B11 := Lib.hid (show Below w.heap.size w w11 from B10.out.trans (Turn.below T11.out B10.out.size fun q hk => by have := B3.out.size; omega))
        clear hx2 ht2 hl2
        go_wp2_with fail
        have hk1 := Cs.new w11 51 #[Value.pointer (some ⟨g, i1 * 6, none⟩), Value.pointer (some ⟨g, i2 * 6, none⟩)]
        have hb1 : Below w11.heap.size w11 (w11.alloc (.cells #[Value.pointer (some ⟨g, i1 * 6, none⟩), Value.pointer (some ⟨g, i2 * 6, none⟩)] 51)) := (Below.refl _ _).alloc (Nat.le_refl _) _
        obtain ⟨g11, hg11⟩ : ∃ g11, g11 = w11.heap.size := ⟨_, rfl⟩
        obtain ⟨w12, hw12⟩ : ∃ w12, w12 = w11.alloc (.cells #[Value.pointer (some ⟨g, i1 * 6, none⟩), Value.pointer (some ⟨g, i2 * 6, none⟩)] 51) := ⟨_, rfl⟩
        rw [← hw12] at hk1 hb1 ⊢
        rw [← hg11] at hk1 ⊢
        have C12v := Lib.hid hk1
        have BB12 := Lib.hid hb1
        have G11 := Lib.hid (show g4 < g11 ∧ g < g11 by
          have h1 := NX11.out.o.box.lt
          obtain ⟨cur, hcur, -⟩ := NX11.out.cells
          have h2 := hcur.lt
          omega)
        clear hk1 hb1 hg11 hw12
        have NX12 := Lib.hid (NX11.out.below BB12.out)
        have C3c := Lib.hid (C3b.out.below BB12.out C3b.out.lt)
        have B12 := Lib.hid (below_chain B11.out BB12.out)
        refine (NX12.out.chg2 HST2.out (i := i1) (j := i2) (by show i1 < l2.length; rw [HL2.out]; exact hi1) (by show i2 < l2.length; rw [HL2.out]; exact hi2) (by show t.count + 1 < _; omega) C12v.out (by have := G11.out; omega) (by have := G11.out; omega)).mono ?_
        rintro e w13 ⟨rfl, ⟨ls3, hx3⟩, ht3⟩
        obtain ⟨l3, hl3⟩ : ∃ l3, l3 = updN (updN l2 h0.1 (chgN (stampT t))) to.1 (chgN (stampT t)) := ⟨_, rfl⟩
        have hI1 : ∀ h : i1 < l2.length, l2[i1].ino = h0.1 := fun h => by rw [HJ2.out i1 h hi1, HII1.out, HA1.out]
        have hI2 : ∀ h : i2 < l2.length, l2[i2].ino = to.1 := fun h => by rw [HJ2.out i2 h hi2, HII2.out, HA2.out]
        have HX3 := Lib.hid (show NxB w13 w3.heap.size g4 (.slice (some ⟨g, 0, none⟩) t.nodes.length c) ss { t with nodes := updN (updN l2 (l2[i1]'(by rw [HL2.out]; exact hi1)).ino (chgN (stampT t))) (l2[i2]'(by rw [HL2.out]; exact hi2)).ino (chgN (stampT t)), count := t.count + 1 } ls3 S from hx3)
        have NX13 := Lib.hid (show NxB w13 w3.heap.size g4 (.slice (some ⟨g, 0, none⟩) t.nodes.length c) ss { t with nodes := l3, count := t.count + 1 } ls3 S by have := HX3.out; rw [hI1, hI2, ← hl3] at this; exact this)
        have T13 := Lib.hid ht3
        have HEL3 := Lib.hid (show l3 = updN (updN t.nodes h0.1 (lessF (stampT t) nm)) to.1 (fun m => withF (stampT t) (k, M.ino) (lessF (stampT t) k m)) by rw [hl3, HEL2.out, HEL1.out]; exact renamed_is t.nodes h0.1 to.1 (stampT t) nm k M.ino)
        have HST3 := Lib.hid (show SortN l3 by rw [hl3]; exact updN_sort (f := chgN (stampT t)) (by intro m; rfl) (updN_sort (f := chgN (stampT t)) (by intro m; rfl) HST2.out))
        have HL3 := Lib.hid (show l3.length = t.nodes.length by rw [hl3, updN_len, updN_len, HL2.out])
        have HJ3 := Lib.hid (show ∀ j (hj : j < l3.length) (hj' : j < t.nodes.length), l3[j].ino = t.nodes[j].ino from fun j hj hj' => by
          have h1 : j < l2.length := by rw [HL2.out]; exact hj'
          rw [inos_at (show inosL l3 = inosL l2 by rw [hl3]; exact (updN_inos (chgN (stampT t)) (by intro m; rfl) _ _).trans (updN_inos (chgN (stampT t)) (by intro m; rfl) _ _)) hj h1, HJ2.out j h1 hj'])
        have hN4 : w3.heap.size ≤ g4 := NX8.out.o.low
        have hNg : w3.heap.size ≤ g := NX8.out.blk.1
        have HNN := Lib.hid (show w3.heap.size ≤ g4 ∧ w3.heap.size ≤ g from ⟨hN4, hNg⟩)
        have C3d := Lib.hid (C3c.out.turn T13.out (fun hk => by have := K3.out; have := HNN.out; omega))
        have B13 := Lib.hid (show Below w.heap.size w w13 from B12.out.trans (Turn.below T13.out B12.out.size fun q hk => by have := B3.out.size; have := HNN.out; omega))
        clear hx3 ht3 hl3 hI1 hI2 hN4 hNg HX2 HX3
        have HCUT := Lib.hid (show Calls Tryd.prog 57 #[.pointer (some ⟨g4, 0, none⟩), v4] w13 fun e w' => e = .returned (.tuple #[]) ∧ ∃ nv', Cs w' g4 31 (trC nv' { t with count := t.count + 1 } ss).toArray ∧ TrAt w' (w3.heap.size ≤ ·) (trC nv' { t with count := t.count + 1 } ss) { t with nodes := outO l3 (o.map (·.ino)), count := t.count + 1 } ∧ Turn w13 w' (fun k => k = g4 ∨ k = g) by
          cases o with
          | none =>
            rcases Hv4.out with ⟨-, rfl⟩ | ⟨i, b, off, hi, h1, -⟩
            · refine (cutNode_nil g4 w13).mono ?_
              rintro e w' ⟨rfl, rfl⟩
              exact ⟨rfl, _, NX13.out.o.box, NX13.out.o.at, Turn.of_below (Below.refl _ _) _⟩
            · cases h1
          | some b =>
            obtain ⟨jo, hjo, hb, rfl⟩ := nodeP_at Hv4.out rfl
            have hj3 : jo < l3.length := by rw [HL3.out]; exact hjo
            refine (NX13.out.cutN HST3.out (by show l3.length ≤ 1000; rw [HL3.out]; have := HM.out.many; omega) (j := jo) hj3).mono ?_
            rintro e w' ⟨rfl, nv', hc, htr, ht⟩
            refine ⟨rfl, nv', hc, ?_, ht⟩
            have e1 : l3[jo].ino = b.ino := by rw [HJ3.out jo hj3 hjo, hb]
            have e2 : outO l3 ((some b).map (·.ino)) = outN l3 l3[jo].ino := by rw [e1]; rfl
            rw [e2]
            exact htr)
        go_wp2_with fail
        refine HCUT.out.mono ?_
        rintro e w14 ⟨rfl, nv', hc, htr, ht⟩
        have HC14 := Lib.hid hc
        have T14 := Lib.hid ht
        have HT14 := Lib.hid (show TrAt w14 (w3.heap.size ≤ ·) (trC nv' { t with count := t.count + 1 } ss) (renamedT t h0.1 nm to.1 k M.ino (o.map (·.ino))) by
          unfold renamedT
          rw [← HEL3.out]
          exact htr)
        have HTL2 := Lib.hid HT14.out.len
        have C3e := Lib.hid (C3d.out.turn T14.out (fun hk => by have := K3.out; have := HNN.out; omega))
        have B14 := Lib.hid (show Below w.heap.size w w14 from B13.out.trans (Turn.below T14.out B13.out.size fun q hk => by have := B3.out.size; have := HNN.out; omega))
        clear hc htr ht
        go_wp2_with (first
          | ((with_reducible show wpList _ _ _ _ _ w14); refine wpList_loadS rfl 31 _ rfl g4 rfl (trC nv' { t with count := t.count + 1 } ss) HC14.out _ Tryd.underlying31 rfl (by rw [HTL2.out]; exact infoTree) ?_; go_frame)
          | ((with_reducible show wpList _ _ _ _ _ w14); refine wpList_storeS rfl 31 _ _ rfl g3 rfl (trC nv' { t with count := t.count + 1 } ss) treeZ rfl C3e.out (by rw [HTL2.out]; rfl) HT14.out.one (by rw [HTL2.out]; exact infoTree) ?_; intro wz hk2 ht2; go_frame; have C3z := Lib.hid hk2; have Tz := Lib.hid ht2; have Bz := Lib.hid (B14.out.trans (ht2.below B14.out.size fun q e => e ▸ G3.out)); clear hk2 ht2)
          | fail)
        refine bodyPost_ret (results_agg_tmp (P := Tryd.prog) (p := 10) (ty := 31) rfl _ _ g3 0 (trC nv' { t with count := t.count + 1 } ss) rfl (At.whole C3z.out) _ Tryd.underlying31 rfl (by rw [HTL2.out]; exact infoTree)) rfl ?_
        refine ⟨_, by rw [HL.out]; rfl, ?_, Bz.out⟩
        rw [HL.out]
        exact (HT14.out.turn Tz.out fun k hk e => by have := K3.out; omega).mono fun k _ hk => Or.inr (by have := B3.out.size; omega)
      · have e0 : ((s2 : Int) != 0) = true := by simp; omega
        have HZ := Lib.hid (show L.1 = t ∧ L.2 = s2 by rw [HR2.out.1 hs]; exact ⟨rfl, rfl⟩)
        go_wp2_with (first
          | ((with_reducible show wpList _ _ _ _ _ w9); refine wpList_loadS rfl 31 _ rfl g4 rfl (trC (.slice (some ⟨g, 0, none⟩) t.nodes.length c) t ss) NX9.out.o.box _ Tryd.underlying31 rfl (by rw [HTL.out]; exact infoTree) ?_; go_frame)
          | ((with_reducible show wpList _ _ _ _ _ w9); refine wpList_storeS rfl 31 _ _ rfl g3 rfl (trC (.slice (some ⟨g, 0, none⟩) t.nodes.length c) t ss) treeZ rfl C39'.out (by rw [HTL.out]; rfl) HTI.out (by rw [HTL.out]; exact infoTree) ?_; intro wy hk2 ht2; go_frame; have C39 := Lib.hid hk2; have T9 := Lib.hid ht2; clear hk2 ht2)
          | fail)
        refine bodyPost_ret (results_agg_tmp (P := Tryd.prog) (p := 10) (ty := 31) rfl _ _ g3 0 (trC (.slice (some ⟨g, 0, none⟩) t.nodes.length c) t ss) rfl (At.whole C39.out) _ Tryd.underlying31 rfl (by rw [HTL.out]; exact infoTree)) rfl ?_
        refine ⟨_, by rw [HZ.out.2]; rfl, ?_, B9.out.trans (T9.out.below B9.out.size fun q e => e ▸ G3.out)⟩
        rw [HZ.out.1]
        exact ((NX9.out.o.at).turn T9.out fun k hk e => by have := K3.out; omega).mono fun k _ hk => Or.inr (by have := B3.out.size; omega)
    · have HZ := Lib.hid (show L.1 = t ∧ L.2 = s1 by rw [HRE.out (HQI.out.1 rfl), HS0.out]; exact ⟨rfl, rfl⟩)
      clear HRE HRN
      go_wp2_with (first
        | ((with_reducible show wpList _ _ _ _ _ w8); refine wpList_loadS rfl 31 _ rfl g4 rfl (trC (.slice (some ⟨g, 0, none⟩) t.nodes.length c) t ss) NX8.out.o.box _ Tryd.underlying31 rfl (by rw [HTL.out]; exact infoTree) ?_; go_frame)
        | ((with_reducible show wpList _ _ _ _ _ w8); refine wpList_storeS rfl 31 _ _ rfl g3 rfl (trC (.slice (some ⟨g, 0, none⟩) t.nodes.length c) t ss) treeZ rfl C38.out (by rw [HTL.out]; rfl) HTI.out (by rw [HTL.out]; exact infoTree) ?_; intro wy hk2 ht2; go_frame; have C39 := Lib.hid hk2; have T9 := Lib.hid ht2; clear hk2 ht2)
        | fail)
      refine bodyPost_ret (results_agg_tmp (P := Tryd.prog) (p := 10) (ty := 31) rfl _ _ g3 0 (trC (.slice (some ⟨g, 0, none⟩) t.nodes.length c) t ss) rfl (At.whole C39.out) _ Tryd.underlying31 rfl (by rw [HTL.out]; exact infoTree)) rfl ?_
      refine ⟨_, by rw [HZ.out.2]; rfl, ?_, B8.out.trans (T9.out.below B8.out.size fun q e => e ▸ G3.out)⟩
      rw [HZ.out.1]
      exact ((NX8.out.o.at).turn T9.out fun k hk e => by have := K3.out; omega).mono fun k _ hk => Or.inr (by have := B3.out.size; omega)
  · have e0 : ((s1 : Int) != 0) = true := by simp; omega
    have HZ := Lib.hid (show L.1 = t ∧ L.2 = s1 by rw [HLZ.out hs]; exact ⟨rfl, rfl⟩)
    go_wp2_with (first
      | ((with_reducible show wpList _ _ _ _ _ w8); refine wpList_loadS rfl 31 _ rfl g4 rfl (trC (.slice (some ⟨g, 0, none⟩) t.nodes.length c) t ss) NX8.out.o.box _ Tryd.underlying31 rfl (by rw [HTL.out]; exact infoTree) ?_; go_frame)
      | ((with_reducible show wpList _ _ _ _ _ w8); refine wpList_storeS rfl 31 _ _ rfl g3 rfl (trC (.slice (some ⟨g, 0, none⟩) t.nodes.length c) t ss) treeZ rfl C38.out (by rw [HTL.out]; rfl) HTI.out (by rw [HTL.out]; exact infoTree) ?_; intro w9 hk2 ht2; go_frame; have C39 := Lib.hid hk2; have T9 := Lib.hid ht2; clear hk2 ht2)
      | fail)
    refine bodyPost_ret (results_agg_tmp (P := Tryd.prog) (p := 10) (ty := 31) rfl _ _ g3 0 (trC (.slice (some ⟨g, 0, none⟩) t.nodes.length c) t ss) rfl (At.whole C39.out) _ Tryd.underlying31 rfl (by rw [HTL.out]; exact infoTree)) rfl ?_
    refine ⟨_, by rw [HZ.out.2]; rfl, ?_, B8.out.trans (T9.out.below B8.out.size fun q e => e ▸ G3.out)⟩
    rw [HZ.out.1]
    exact ((NX8.out.o.at).turn T9.out fun k hk e => by have := K3.out; omega).mono fun k _ hk => Or.inr (by have := B3.out.size; omega)

end Go.Proofs.YtenpmbfncnepgaaDoor
