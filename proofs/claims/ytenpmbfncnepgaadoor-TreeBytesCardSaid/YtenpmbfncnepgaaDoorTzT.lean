/- The program: Remove. -/
import Derived.Test.YtenpmbfncnepgaaDoorTzPK
namespace Go.Proofs.YtenpmbfncnepgaaDoor
open Go.RowKit Go.Shelf
set_option linter.unusedVariables false
set_option maxRecDepth 100000
set_option linter.unusedSimpArgs false

theorem bs_any {w w' : World} {F F' : Nat → Prop} {v : Value} {l : List UInt8} (h : BsV w F v l) (he : l = []) : BsV w' F' v l := by
  subst he
  obtain ⟨A, c, e, -, h2, h3⟩ := h
  exact ⟨A, c, e, .inl rfl, h2, h3⟩
theorem map_eraseIdx13 {α β : Type} (f : α → β) (l : List α) (i : Nat) : (l.eraseIdx i).map f = (l.map f).eraseIdx i := by
  rw [List.eraseIdx_eq_take_drop_succ, List.eraseIdx_eq_take_drop_succ, List.map_append, List.map_take, List.map_drop]
theorem inos_at {l l' : List Nd} (h : inosL l = inosL l') {j : Nat} (hj : j < l.length) (hj' : j < l'.length) : l[j].ino = l'[j].ino := by
  have := congrArg (fun x : List Nat => x[j]?) h
  simp only [inosL, List.getElem?_map, List.getElem?_eq_getElem hj, List.getElem?_eq_getElem hj', Option.map_some, Option.some.injEq] at this
  exact this
theorem remove_is {t : Tr} (hm : MayT t) (h : Nat × Nat) (nm : Key) (dir : Bool) : (removeT t h nm dir).2 = orS 0 (orS (stOf (findT t.nodes h).isSome 1) (orS (kindS (findT t.nodes h) true) (orS (stOf (nameL nm) 8) (orS (stOf (namedT t.nodes (findT t.nodes h) nm).isSome 2) (orS (kindS (namedT t.nodes (findT t.nodes h) nm) dir) (orS (stOf (emptyO (namedT t.nodes (findT t.nodes h) nm)) 6) (orS (stOf (decide (t.count < 2147483648)) 7) 0))))))) ∧
    ((removeT t h nm dir).2 ≠ 0 → (removeT t h nm dir).1 = t) ∧ ((removeT t h nm dir).2 = 0 → t.count < 2147483648 ∧ ∃ d m, findT t.nodes h = some d ∧ d.dir = true ∧ (nm, m.ino) ∈ d.names ∧ namedT t.nodes (findT t.nodes h) nm = some m ∧ (removeT t h nm dir).1 = removedT t h.1 nm m.ino) := by
  unfold removeT
  rw [if_pos hm]
  cases hd : findT t.nodes h with
  | none => simp [orS, stOf]
  | some d =>
    have hmem := ((findT_some hm.rise).1 hd).1
    cases hdir : d.dir
    · simp [orS, stOf, kindS, hdir]
    · cases hnm : nameL nm
      · simp [orS, stOf, kindS, hdir, hnm]
      · cases hx : inE d.names nm with
        | none => simp [orS, stOf, kindS, hdir, hnm, namedT, hx]
        | some x =>
          obtain ⟨m, h1, h2, h3, h4⟩ := named_some hm hmem hx
          subst h3
          by_cases hc : 2147483648 ≤ t.count
          · have hc' : ¬ t.count < 2147483648 := by omega
            cases hmd : m.dir <;> cases dir <;> cases hmn : m.names <;> simp [orS, stOf, kindS, goneS, emptyO, hdir, hnm, namedT, hx, h1, hmd, hmn, hc, hc']
          · have hc' : t.count < 2147483648 := by omega
            cases hmd : m.dir <;> cases dir <;> cases hmn : m.names <;> simp [orS, stOf, kindS, goneS, emptyO, hdir, hnm, namedT, hx, h1, hmd, hmn, hc, hc', h4] <;> exact ⟨m, h4, rfl, rfl⟩
set_option maxHeartbeats 16000000 in
theorem Remove_v (t : Tr) (cs : List Value) (h0 : Nat × Nat) (nm : Key) (dir : Bool) (F : Nat → Prop) (w : World) (hT : Tabs w) (h : TrAt w F cs t) (hm : MayT t) :
    Calls Tryd.prog 32 #[.agg cs.toArray, .agg (hdC h0).toArray, sv nm, .bool dir] w fun e w' => GivesT F (removeT t h0 nm dir) w e w' := by
  have hmix : Tryd.prog.follows .mixedOrders = true := by kernel_rfl
  obtain ⟨LS, LN, L0⟩ := remove_is hm h0 nm dir
  have HLS := Lib.hid LS
  have HLZ := Lib.hid LN
  have HL0 := Lib.hid L0
  have hs256 : (removeT t h0 nm dir).2 < 256 := by
    rw [LS]
    have := kind_lt (findT t.nodes h0) true
    have := kind_lt (namedT t.nodes (findT t.nodes h0) nm) dir
    unfold orS stOf
    repeat (first | omega | split)
  have HLT := Lib.hid hs256
  clear LS LN L0 hs256
  obtain ⟨L, hL⟩ : ∃ L, L = removeT t h0 nm dir := ⟨_, rfl⟩
  rw [← hL] at HLS HLZ HL0 HLT ⊢
  clear hL
  have HSRT := Lib.hid (show ∀ d ∈ t.nodes, SortE d.names ∧ d.names.length ≤ 140737488355328 from fun d hd => ⟨(hm.ok d hd).sort, by have := (hm.ok d hd).many; omega⟩)
  have HTR := Lib.hid (show TrAt w (fun k => F k ∧ k < w.heap.size) cs t from h.mono fun k hk hF => ⟨hF, hk⟩)
  have HSM := Lib.hid (small_of hm h)
  have HT := Lib.hid hT
  have HM := Lib.hid hm
  have HLN := Lib.hid h.len
  obtain ⟨hr0, -⟩ := root_first hm
  have HR0 := Lib.hid hr0
  clear hT hm h hr0
  go_enter Tryd.func32, Tryd.ntmps32
  go_wp2_with (first
    | ((with_reducible show wpList _ _ _ _ _ w); refine wpList_boxS rfl 31 _ rfl cs rfl ?_; intro g1 w1 hk1 hb1 hg1; go_frame; have C1 := Lib.hid hk1; have B1 := Lib.hid hb1; clear hk1 hb1 hg1)
    | ((with_reducible show wpList _ _ _ _ _ w1); refine wpList_boxS rfl 39 _ rfl (hdC h0) rfl ?_; intro g2 w2 hk1 hb1 hg1; go_frame; have C2 := Lib.hid hk1; have C12 := Lib.hid (C1.out.below hb1 C1.out.lt); have B2 := Lib.hid (below_chain B1.out hb1); clear hk1 hb1 hg1)
    | ((with_reducible show wpList _ _ _ _ _ w2); refine wpList_allocS rfl 31 rfl treeZ treeZero ?_; intro g3 w3 hk1 hb1 hg1; go_frame; have C3 := Lib.hid hk1; have C23 := Lib.hid (C2.out.below hb1 C2.out.lt); have C13 := Lib.hid (C12.out.below hb1 C12.out.lt); have B3 := Lib.hid (below_chain B2.out hb1); have G3 := Lib.hid (Nat.le_trans B2.out.size hg1); clear hk1 hb1 hg1)
    | ((with_reducible show wpList _ _ _ _ _ w3); refine wpList_loadS rfl 31 _ rfl g1 rfl cs C13.out _ Tryd.underlying31 rfl (by rw [HLN.out]; exact infoTree) ?_; go_frame)
    | fail)
  refine (Copy_v t cs (fun k => F k ∧ k < w.heap.size) w3 (HTR.out.below B3.out) HSM.out fun k hk => Nat.lt_of_lt_of_le hk.2 B3.out.size).mono ?_
  rintro e w4 ⟨nv, ss, ls, S, rfl, hto, hb⟩
  have HTO := Lib.hid hto
  have B34 := Lib.hid hb
  have B4 := Lib.hid (below_chain B3.out hb)
  have C24 := Lib.hid (C23.out.below hb C23.out.lt)
  have C34 := Lib.hid (C3.out.below hb C3.out.lt)
  have K3 := Lib.hid C3.out.lt
  obtain ⟨g, c, hnv, hlo⟩ : ∃ g c, nv = .slice (some ⟨g, 0, none⟩) t.nodes.length c ∧ w3.heap.size ≤ g := by
    have hll : ls.length = t.nodes.length := by rw [← hto.nds, List.length_map]
    obtain ⟨g, c, e, h1, -⟩ := hto.own.shape (fun e => by rw [e] at hll; have := HR0.out; simp at hll; omega)
    exact ⟨g, c, by rw [e, hll], h1⟩
  have HTL := Lib.hid (show (trC nv t ss).length = 16 by unfold trC; simp only [List.length_cons, hto.len.2])
  have HTI := Lib.hid (show ∀ v ∈ trC nv t ss, v.oneCell' = true from (TrO.at1 hto).one)
  subst hnv
  clear hto hb hlo
  go_wp2_with (first
    | ((with_reducible show wpList _ _ _ _ _ w4); refine wpList_allocS rfl 31 rfl treeZ treeZero ?_; intro g4 w5 hk1 hb1 hg1; go_frame; have C45 := Lib.hid hk1; have B45 := Lib.hid hb1; have C25 := Lib.hid (C24.out.below hb1 C24.out.lt); have C35 := Lib.hid (C34.out.below hb1 C34.out.lt); have B5 := Lib.hid (below_chain B4.out hb1); have G4 := Lib.hid hg1; have K24 := Lib.hid C24.out.lt; have K34 := Lib.hid C34.out.lt; clear hk1 hb1 hg1)
    | ((with_reducible show wpList _ _ _ _ _ w5); refine wpList_storeS rfl 31 _ _ rfl g4 rfl (trC (.slice (some ⟨g, 0, none⟩) t.nodes.length c) t ss) treeZ rfl C45.out (by rw [HTL.out]; rfl) HTI.out (by rw [HTL.out]; exact infoTree) ?_; intro w6 hk2 ht2; go_frame; have hb46 : Below w4.heap.size w4 w6 := below_turn B45.out ht2 B45.out.size G4.out; have NX := Lib.hid (TrO.nx HTO.out hb46 hk2 G4.out (Nat.le_trans B34.out.size G4.out)); have B6 := Lib.hid (below_chain B4.out hb46); have C26 := Lib.hid (C24.out.below hb46 C24.out.lt); have C36 := Lib.hid (C34.out.below hb46 C34.out.lt); have q0 : w6.cell? ⟨g4, 0, none⟩ = some (.slice (some ⟨g, 0, none⟩) t.nodes.length c) := hk2.cell 0 rfl; clear hk2 ht2 hb46)
    | ((with_reducible show wpList _ _ _ _ _ w6); refine wpList_loadS rfl 39 _ rfl g2 rfl (hdC h0) C26.out _ Tryd.underlying39 rfl infoHandle13 ?_; go_frame)
    | fail)
  refine (nodeOf_v t.nodes h0 (some ⟨g, 0, none⟩) c (w3.heap.size ≤ ·) w6 (by have := HM.out.many; omega) HM.out.rise NX.out.rd.1).mono ?_
  rintro e w6b ⟨⟨vp, rfl, hp⟩, hb⟩
  have HP := Lib.hid hp
  have NX6b := Lib.hid (NX.out.below hb)
  have B6b := Lib.hid (below_chain B6.out hb)
  have C36b := Lib.hid (C36.out.below hb C36.out.lt)
  have q0 : w6b.cell? ⟨g4, 0, none⟩ = some (.slice (some ⟨g, 0, none⟩) t.nodes.length c) := (NX.out.below hb).o.box.cell 0 rfl
  clear hp hb
  go_wp2_with fail
  refine (nodeNamed_v t.nodes (some ⟨g, 0, none⟩) c vp (findT t.nodes h0) nm (w3.heap.size ≤ ·) w6b (by have := HM.out.many; omega) HM.out.rise HSRT.out NX6b.out.rd.1 HP.out).mono ?_
  rintro e w7 ⟨⟨vn, rfl, hp⟩, hb⟩
  have HQ := Lib.hid hp
  have NX7 := Lib.hid (NX6b.out.below hb)
  have B7 := Lib.hid (below_chain B6b.out hb)
  have C37 := Lib.hid (C36b.out.below hb C36b.out.lt)
  clear hp hb q0
  have HMT := Lib.hid (May_at t _ _ w7 (HT.out.below B7.out) NX7.out.o.at HM.out)
  go_wp2_with fail
  refine wp_region_V [] (fun u => Below w7.heap.size w7 u) hmix ((Below.refl _ _).drew) ?_
  change wpAnyV _ _ _ _ _ _ _ _ _
  refine wpAnyV_take (i := 0) (v := .agg (trC (.slice (some ⟨g, 0, none⟩) t.nodes.length c) t ss).toArray) 12 (kept_below _) rfl (by kernel_rfl) (by kernel_rfl) (fun _ _ _ h => h) (fun _ h => h) (DoesV.loadT (by rfl) 31 _ rfl g4 0 rfl (trC (.slice (some ⟨g, 0, none⟩) t.nodes.length c) t ss) (fun w9 hS => At.whole (NX7.out.below hS).o.box) _ Tryd.underlying31 rfl (by rw [HTL.out]; exact infoTree)) ?_
  try simp only [List.getElem_toArray, List.getElem_cons_succ, List.getElem_cons_zero, Act.put, List.setIfInBounds_toArray, List.set_cons_succ, List.set_cons_zero]
  refine wpAnyV_take (i := 2) (v := vp) 12 (kept_below _) rfl (by kernel_rfl) (by kernel_rfl) (fun _ _ _ h => h) (fun _ h => h) (DoesV.reads (by rfl) fun w9 hS => by go_simp) ?_
  try simp only [List.getElem_toArray, List.getElem_cons_succ, List.getElem_cons_zero, Act.put, List.setIfInBounds_toArray, List.set_cons_succ, List.set_cons_zero]
  refine wpAnyV_take (i := 4) (v := vp) 12 (kept_below _) rfl (by kernel_rfl) (by kernel_rfl) (fun _ _ _ h => h) (fun _ h => h) (DoesV.reads (by rfl) fun w9 hS => by go_simp) ?_
  try simp only [List.getElem_toArray, List.getElem_cons_succ, List.getElem_cons_zero, Act.put, List.setIfInBounds_toArray, List.set_cons_succ, List.set_cons_zero]
  refine wpAnyV_take (i := 6) (v := sv nm) 12 (kept_below _) rfl (by kernel_rfl) (by kernel_rfl) (fun _ _ _ h => h) (fun _ h => h) (DoesV.reads (by rfl) fun w9 hS => by go_simp) ?_
  try simp only [List.getElem_toArray, List.getElem_cons_succ, List.getElem_cons_zero, Act.put, List.setIfInBounds_toArray, List.set_cons_succ, List.set_cons_zero]
  refine wpAnyV_take (i := 8) (v := vn) 12 (kept_below _) rfl (by kernel_rfl) (by kernel_rfl) (fun _ _ _ h => h) (fun _ h => h) (DoesV.reads (by rfl) fun w9 hS => by go_simp) ?_
  try simp only [List.getElem_toArray, List.getElem_cons_succ, List.getElem_cons_zero, Act.put, List.setIfInBounds_toArray, List.set_cons_succ, List.set_cons_zero]
  refine wpAnyV_take (i := 10) (v := vn) 12 (kept_below _) rfl (by kernel_rfl) (by kernel_rfl) (fun _ _ _ h => h) (fun _ h => h) (DoesV.reads (by rfl) fun w9 hS => by go_simp) ?_
  try simp only [List.getElem_toArray, List.getElem_cons_succ, List.getElem_cons_zero, Act.put, List.setIfInBounds_toArray, List.set_cons_succ, List.set_cons_zero]
  refine wpAnyV_take (i := 11) (v := .bool dir) 12 (kept_below _) rfl (by kernel_rfl) (by kernel_rfl) (fun _ _ _ h => h) (fun _ h => h) (DoesV.reads (by rfl) fun w9 hS => by go_simp) ?_
  try simp only [List.getElem_toArray, List.getElem_cons_succ, List.getElem_cons_zero, Act.put, List.setIfInBounds_toArray, List.set_cons_succ, List.set_cons_zero]
  refine wpAnyV_take (i := 13) (v := vn) 12 (kept_below _) rfl (by kernel_rfl) (by kernel_rfl) (fun _ _ _ h => h) (fun _ h => h) (DoesV.reads (by rfl) fun w9 hS => by go_simp) ?_
  try simp only [List.getElem_toArray, List.getElem_cons_succ, List.getElem_cons_zero, Act.put, List.setIfInBounds_toArray, List.set_cons_succ, List.set_cons_zero]
  refine wpAnyV_take (i := 15) (v := .agg (trC (.slice (some ⟨g, 0, none⟩) t.nodes.length c) t ss).toArray) 12 (kept_below _) rfl (by kernel_rfl) (by kernel_rfl) (fun _ _ _ h => h) (fun _ h => h) (DoesV.loadT (by rfl) 31 _ rfl g4 0 rfl (trC (.slice (some ⟨g, 0, none⟩) t.nodes.length c) t ss) (fun w9 hS => At.whole (NX7.out.below hS).o.box) _ Tryd.underlying31 rfl (by rw [HTL.out]; exact infoTree)) ?_
  try simp only [List.getElem_toArray, List.getElem_cons_succ, List.getElem_cons_zero, Act.put, List.setIfInBounds_toArray, List.set_cons_succ, List.set_cons_zero]
  refine wpAnyV_only (i := 1) rfl (by kernel_rfl) rfl (fun u hS => wp_of_call (f := 14) (args := #[.agg (trC (.slice (some ⟨g, 0, none⟩) t.nodes.length c) t ss).toArray]) (by go_simp) (mayBe_v _ u HTL.out fun W hW => HMT.out W (below_chain (hS) hW)) fun e u' hu => ?_)
  try simp only [List.getElem_toArray, List.getElem_cons_succ, List.getElem_cons_zero, Act.put, List.setIfInBounds_toArray, List.set_cons_succ, List.set_cons_zero]
  obtain ⟨va0, he, kva0, hA, hb⟩ := hu
  have Ova0 := Lib.hid kva0
  have Qva0 : (fun u => Below w7.heap.size w7 u) u' := (kept_below _) _ _ hS hb
  refine ⟨va0, he, fun z => (Below w7.heap.size w7 z) ∧ (True → AskV z va0 0), ⟨Qva0, hA⟩, kept_and (kept_below _) (kept_ask _ _ _), fun _ _ h => h.1, ?_⟩
  clear hA hb he kva0 hS Qva0
  try simp only [List.getElem_toArray, List.getElem_cons_succ, List.getElem_cons_zero, Act.put, List.setIfInBounds_toArray, List.set_cons_succ, List.set_cons_zero]
  refine wpAnyV_only (i := 3) rfl (by kernel_rfl) rfl (fun u hS => wp_of_call (f := 15) (args := #[vp, .int .u8 1]) (by go_simp) (isThere_v vp 1 (some ⟨g, 0, none⟩) t.nodes (findT t.nodes h0) u HP.out) fun e u' hu => ?_)
  try simp only [List.getElem_toArray, List.getElem_cons_succ, List.getElem_cons_zero, Act.put, List.setIfInBounds_toArray, List.set_cons_succ, List.set_cons_zero]
  obtain ⟨va1, he, kva1, hA, hb⟩ := hu
  have Ova1 := Lib.hid kva1
  have Qva1 : (fun u => (Below w7.heap.size w7 u) ∧ (True → AskV u va0 0)) u' := (kept_and (kept_below _) (kept_ask _ _ _)) _ _ hS hb
  refine ⟨va1, he, fun z => ((Below w7.heap.size w7 z) ∧ (True → AskV z va0 0)) ∧ (True → AskV z va1 (stOf (findT t.nodes h0).isSome 1)), ⟨Qva1, hA⟩, kept_and (kept_and (kept_below _) (kept_ask _ _ _)) (kept_ask _ _ _), fun _ _ h => h.1, ?_⟩
  clear hA hb he kva1 hS Qva1
  try simp only [List.getElem_toArray, List.getElem_cons_succ, List.getElem_cons_zero, Act.put, List.setIfInBounds_toArray, List.set_cons_succ, List.set_cons_zero]
  refine wpAnyV_only (i := 5) rfl (by kernel_rfl) rfl (fun u hS => wp_of_call (f := 16) (args := #[vp, .bool true]) (by go_simp) (isKind_v vp true (some ⟨g, 0, none⟩) t.nodes (findT t.nodes h0) (w3.heap.size ≤ ·) u (NX7.out.below (hS.1.1)).rd.1 HP.out) fun e u' hu => ?_)
  try simp only [List.getElem_toArray, List.getElem_cons_succ, List.getElem_cons_zero, Act.put, List.setIfInBounds_toArray, List.set_cons_succ, List.set_cons_zero]
  obtain ⟨va2, he, kva2, hA, hb⟩ := hu
  have Ova2 := Lib.hid kva2
  have Qva2 : (fun u => ((Below w7.heap.size w7 u) ∧ (True → AskV u va0 0)) ∧ (True → AskV u va1 (stOf (findT t.nodes h0).isSome 1))) u' := (kept_and (kept_and (kept_below _) (kept_ask _ _ _)) (kept_ask _ _ _)) _ _ hS hb
  refine ⟨va2, he, fun z => (((Below w7.heap.size w7 z) ∧ (True → AskV z va0 0)) ∧ (True → AskV z va1 (stOf (findT t.nodes h0).isSome 1))) ∧ (True → AskV z va2 (kindS (findT t.nodes h0) true)), ⟨Qva2, hA⟩, kept_and (kept_and (kept_and (kept_below _) (kept_ask _ _ _)) (kept_ask _ _ _)) (kept_ask _ _ _), fun _ _ h => h.1, ?_⟩
  clear hA hb he kva2 hS Qva2
  try simp only [List.getElem_toArray, List.getElem_cons_succ, List.getElem_cons_zero, Act.put, List.setIfInBounds_toArray, List.set_cons_succ, List.set_cons_zero]
  refine wpAnyV_only (i := 7) rfl (by kernel_rfl) rfl (fun u hS => wp_of_call (f := 17) (args := #[sv nm]) (by go_simp) (isName_v nm u (HT.out.below (below_chain B7.out (hS.1.1.1)))) fun e u' hu => ?_)
  try simp only [List.getElem_toArray, List.getElem_cons_succ, List.getElem_cons_zero, Act.put, List.setIfInBounds_toArray, List.set_cons_succ, List.set_cons_zero]
  obtain ⟨va3, he, kva3, hA, hb⟩ := hu
  have Ova3 := Lib.hid kva3
  have Qva3 : (fun u => (((Below w7.heap.size w7 u) ∧ (True → AskV u va0 0)) ∧ (True → AskV u va1 (stOf (findT t.nodes h0).isSome 1))) ∧ (True → AskV u va2 (kindS (findT t.nodes h0) true))) u' := (kept_and (kept_and (kept_and (kept_below _) (kept_ask _ _ _)) (kept_ask _ _ _)) (kept_ask _ _ _)) _ _ hS hb
  refine ⟨va3, he, fun z => ((((Below w7.heap.size w7 z) ∧ (True → AskV z va0 0)) ∧ (True → AskV z va1 (stOf (findT t.nodes h0).isSome 1))) ∧ (True → AskV z va2 (kindS (findT t.nodes h0) true))) ∧ (True → AskV z va3 (stOf (nameL nm) 8)), ⟨Qva3, hA⟩, kept_and (kept_and (kept_and (kept_and (kept_below _) (kept_ask _ _ _)) (kept_ask _ _ _)) (kept_ask _ _ _)) (kept_ask _ _ _), fun _ _ h => h.1, ?_⟩
  clear hA hb he kva3 hS Qva3
  try simp only [List.getElem_toArray, List.getElem_cons_succ, List.getElem_cons_zero, Act.put, List.setIfInBounds_toArray, List.set_cons_succ, List.set_cons_zero]
  refine wpAnyV_only (i := 9) rfl (by kernel_rfl) rfl (fun u hS => wp_of_call (f := 15) (args := #[vn, .int .u8 2]) (by go_simp) (isThere_v vn 2 (some ⟨g, 0, none⟩) t.nodes (namedT t.nodes (findT t.nodes h0) nm) u HQ.out) fun e u' hu => ?_)
  try simp only [List.getElem_toArray, List.getElem_cons_succ, List.getElem_cons_zero, Act.put, List.setIfInBounds_toArray, List.set_cons_succ, List.set_cons_zero]
  obtain ⟨va4, he, kva4, hA, hb⟩ := hu
  have Ova4 := Lib.hid kva4
  have Qva4 : (fun u => ((((Below w7.heap.size w7 u) ∧ (True → AskV u va0 0)) ∧ (True → AskV u va1 (stOf (findT t.nodes h0).isSome 1))) ∧ (True → AskV u va2 (kindS (findT t.nodes h0) true))) ∧ (True → AskV u va3 (stOf (nameL nm) 8))) u' := (kept_and (kept_and (kept_and (kept_and (kept_below _) (kept_ask _ _ _)) (kept_ask _ _ _)) (kept_ask _ _ _)) (kept_ask _ _ _)) _ _ hS hb
  refine ⟨va4, he, fun z => (((((Below w7.heap.size w7 z) ∧ (True → AskV z va0 0)) ∧ (True → AskV z va1 (stOf (findT t.nodes h0).isSome 1))) ∧ (True → AskV z va2 (kindS (findT t.nodes h0) true))) ∧ (True → AskV z va3 (stOf (nameL nm) 8))) ∧ (True → AskV z va4 (stOf (namedT t.nodes (findT t.nodes h0) nm).isSome 2)), ⟨Qva4, hA⟩, kept_and (kept_and (kept_and (kept_and (kept_and (kept_below _) (kept_ask _ _ _)) (kept_ask _ _ _)) (kept_ask _ _ _)) (kept_ask _ _ _)) (kept_ask _ _ _), fun _ _ h => h.1, ?_⟩
  clear hA hb he kva4 hS Qva4
  try simp only [List.getElem_toArray, List.getElem_cons_succ, List.getElem_cons_zero, Act.put, List.setIfInBounds_toArray, List.set_cons_succ, List.set_cons_zero]
  refine wpAnyV_only (i := 12) rfl (by kernel_rfl) rfl (fun u hS => wp_of_call (f := 16) (args := #[vn, .bool dir]) (by go_simp) (isKind_v vn dir (some ⟨g, 0, none⟩) t.nodes (namedT t.nodes (findT t.nodes h0) nm) (w3.heap.size ≤ ·) u (NX7.out.below (hS.1.1.1.1.1)).rd.1 HQ.out) fun e u' hu => ?_)
  try simp only [List.getElem_toArray, List.getElem_cons_succ, List.getElem_cons_zero, Act.put, List.setIfInBounds_toArray, List.set_cons_succ, List.set_cons_zero]
  obtain ⟨va5, he, kva5, hA, hb⟩ := hu
  have Ova5 := Lib.hid kva5
  have Qva5 : (fun u => (((((Below w7.heap.size w7 u) ∧ (True → AskV u va0 0)) ∧ (True → AskV u va1 (stOf (findT t.nodes h0).isSome 1))) ∧ (True → AskV u va2 (kindS (findT t.nodes h0) true))) ∧ (True → AskV u va3 (stOf (nameL nm) 8))) ∧ (True → AskV u va4 (stOf (namedT t.nodes (findT t.nodes h0) nm).isSome 2))) u' := (kept_and (kept_and (kept_and (kept_and (kept_and (kept_below _) (kept_ask _ _ _)) (kept_ask _ _ _)) (kept_ask _ _ _)) (kept_ask _ _ _)) (kept_ask _ _ _)) _ _ hS hb
  refine ⟨va5, he, fun z => ((((((Below w7.heap.size w7 z) ∧ (True → AskV z va0 0)) ∧ (True → AskV z va1 (stOf (findT t.nodes h0).isSome 1))) ∧ (True → AskV z va2 (kindS (findT t.nodes h0) true))) ∧ (True → AskV z va3 (stOf (nameL nm) 8))) ∧ (True → AskV z va4 (stOf (namedT t.nodes (findT t.nodes h0) nm).isSome 2))) ∧ (True → AskV z va5 (kindS (namedT t.nodes (findT t.nodes h0) nm) dir)), ⟨Qva5, hA⟩, kept_and (kept_and (kept_and (kept_and (kept_and (kept_and (kept_below _) (kept_ask _ _ _)) (kept_ask _ _ _)) (kept_ask _ _ _)) (kept_ask _ _ _)) (kept_ask _ _ _)) (kept_ask _ _ _), fun _ _ h => h.1, ?_⟩
  clear hA hb he kva5 hS Qva5
  try simp only [List.getElem_toArray, List.getElem_cons_succ, List.getElem_cons_zero, Act.put, List.setIfInBounds_toArray, List.set_cons_succ, List.set_cons_zero]
  refine wpAnyV_only (i := 14) rfl (by kernel_rfl) rfl (fun u hS => wp_of_call (f := 55) (args := #[vn]) (by go_simp) (isEmpty_v vn (some ⟨g, 0, none⟩) t.nodes (namedT t.nodes (findT t.nodes h0) nm) (w3.heap.size ≤ ·) u (NX7.out.below (hS.1.1.1.1.1.1)).rd.1 HQ.out) fun e u' hu => ?_)
  try simp only [List.getElem_toArray, List.getElem_cons_succ, List.getElem_cons_zero, Act.put, List.setIfInBounds_toArray, List.set_cons_succ, List.set_cons_zero]
  obtain ⟨va6, he, kva6, hA, hb⟩ := hu
  have Ova6 := Lib.hid kva6
  have Qva6 : (fun u => ((((((Below w7.heap.size w7 u) ∧ (True → AskV u va0 0)) ∧ (True → AskV u va1 (stOf (findT t.nodes h0).isSome 1))) ∧ (True → AskV u va2 (kindS (findT t.nodes h0) true))) ∧ (True → AskV u va3 (stOf (nameL nm) 8))) ∧ (True → AskV u va4 (stOf (namedT t.nodes (findT t.nodes h0) nm).isSome 2))) ∧ (True → AskV u va5 (kindS (namedT t.nodes (findT t.nodes h0) nm) dir))) u' := (kept_and (kept_and (kept_and (kept_and (kept_and (kept_and (kept_below _) (kept_ask _ _ _)) (kept_ask _ _ _)) (kept_ask _ _ _)) (kept_ask _ _ _)) (kept_ask _ _ _)) (kept_ask _ _ _)) _ _ hS hb
  refine ⟨va6, he, fun z => (((((((Below w7.heap.size w7 z) ∧ (True → AskV z va0 0)) ∧ (True → AskV z va1 (stOf (findT t.nodes h0).isSome 1))) ∧ (True → AskV z va2 (kindS (findT t.nodes h0) true))) ∧ (True → AskV z va3 (stOf (nameL nm) 8))) ∧ (True → AskV z va4 (stOf (namedT t.nodes (findT t.nodes h0) nm).isSome 2))) ∧ (True → AskV z va5 (kindS (namedT t.nodes (findT t.nodes h0) nm) dir))) ∧ (True → AskV z va6 (stOf (emptyO (namedT t.nodes (findT t.nodes h0) nm)) 6)), ⟨Qva6, hA⟩, kept_and (kept_and (kept_and (kept_and (kept_and (kept_and (kept_and (kept_below _) (kept_ask _ _ _)) (kept_ask _ _ _)) (kept_ask _ _ _)) (kept_ask _ _ _)) (kept_ask _ _ _)) (kept_ask _ _ _)) (kept_ask _ _ _), fun _ _ h => h.1, ?_⟩
  clear hA hb he kva6 hS Qva6
  try simp only [List.getElem_toArray, List.getElem_cons_succ, List.getElem_cons_zero, Act.put, List.setIfInBounds_toArray, List.set_cons_succ, List.set_cons_zero]
  refine wpAnyV_only (i := 16) rfl (by kernel_rfl) rfl (fun u hS => wp_of_call (f := 23) (args := #[.agg (trC (.slice (some ⟨g, 0, none⟩) t.nodes.length c) t ss).toArray]) (by go_simp) (hasCount_v _ t (w3.heap.size ≤ ·) u (NX7.out.below (hS.1.1.1.1.1.1.1)).o.at) fun e u' hu => ?_)
  try simp only [List.getElem_toArray, List.getElem_cons_succ, List.getElem_cons_zero, Act.put, List.setIfInBounds_toArray, List.set_cons_succ, List.set_cons_zero]
  obtain ⟨va7, he, kva7, hA, hb⟩ := hu
  have Ova7 := Lib.hid kva7
  have Qva7 : (fun u => (((((((Below w7.heap.size w7 u) ∧ (True → AskV u va0 0)) ∧ (True → AskV u va1 (stOf (findT t.nodes h0).isSome 1))) ∧ (True → AskV u va2 (kindS (findT t.nodes h0) true))) ∧ (True → AskV u va3 (stOf (nameL nm) 8))) ∧ (True → AskV u va4 (stOf (namedT t.nodes (findT t.nodes h0) nm).isSome 2))) ∧ (True → AskV u va5 (kindS (namedT t.nodes (findT t.nodes h0) nm) dir))) ∧ (True → AskV u va6 (stOf (emptyO (namedT t.nodes (findT t.nodes h0) nm)) 6))) u' := (kept_and (kept_and (kept_and (kept_and (kept_and (kept_and (kept_and (kept_below _) (kept_ask _ _ _)) (kept_ask _ _ _)) (kept_ask _ _ _)) (kept_ask _ _ _)) (kept_ask _ _ _)) (kept_ask _ _ _)) (kept_ask _ _ _)) _ _ hS hb
  refine ⟨va7, he, fun z => ((((((((Below w7.heap.size w7 z) ∧ (True → AskV z va0 0)) ∧ (True → AskV z va1 (stOf (findT t.nodes h0).isSome 1))) ∧ (True → AskV z va2 (kindS (findT t.nodes h0) true))) ∧ (True → AskV z va3 (stOf (nameL nm) 8))) ∧ (True → AskV z va4 (stOf (namedT t.nodes (findT t.nodes h0) nm).isSome 2))) ∧ (True → AskV z va5 (kindS (namedT t.nodes (findT t.nodes h0) nm) dir))) ∧ (True → AskV z va6 (stOf (emptyO (namedT t.nodes (findT t.nodes h0) nm)) 6))) ∧ (True → AskV z va7 (stOf (decide (t.count < 2147483648)) 7)), ⟨Qva7, hA⟩, kept_and (kept_and (kept_and (kept_and (kept_and (kept_and (kept_and (kept_and (kept_below _) (kept_ask _ _ _)) (kept_ask _ _ _)) (kept_ask _ _ _)) (kept_ask _ _ _)) (kept_ask _ _ _)) (kept_ask _ _ _)) (kept_ask _ _ _)) (kept_ask _ _ _), fun _ _ h => h.1, ?_⟩
  clear hA hb he kva7 hS Qva7
  try simp only [List.getElem_toArray, List.getElem_cons_succ, List.getElem_cons_zero, Act.put, List.setIfInBounds_toArray, List.set_cons_succ, List.set_cons_zero]
  refine wpAnyV_only (i := 17) rfl (by kernel_rfl) rfl (fun ub hS => wp_of_run2 (run_asks8 rfl rfl rfl rfl rfl rfl rfl rfl rfl Ova0.out Ova1.out Ova2.out Ova3.out Ova4.out Ova5.out Ova6.out Ova7.out) ⟨fun z => (fun u => ((((((((Below w7.heap.size w7 u) ∧ (True → AskV u va0 0)) ∧ (True → AskV u va1 (stOf (findT t.nodes h0).isSome 1))) ∧ (True → AskV u va2 (kindS (findT t.nodes h0) true))) ∧ (True → AskV u va3 (stOf (nameL nm) 8))) ∧ (True → AskV u va4 (stOf (namedT t.nodes (findT t.nodes h0) nm).isSome 2))) ∧ (True → AskV u va5 (kindS (namedT t.nodes (findT t.nodes h0) nm) dir))) ∧ (True → AskV u va6 (stOf (emptyO (namedT t.nodes (findT t.nodes h0) nm)) 6))) ∧ (True → AskV u va7 (stOf (decide (t.count < 2147483648)) 7))) z ∧ Cs z ub.heap.size 55 #[va0, va1, va2, va3, va4, va5, va6, va7], ⟨(kept_and (kept_and (kept_and (kept_and (kept_and (kept_and (kept_and (kept_and (kept_below _) (kept_ask _ _ _)) (kept_ask _ _ _)) (kept_ask _ _ _)) (kept_ask _ _ _)) (kept_ask _ _ _)) (kept_ask _ _ _)) (kept_ask _ _ _)) (kept_ask _ _ _)) _ _ hS ((Below.refl _ _).alloc (Nat.le_refl _) _), Cs.new _ _ _⟩, kept_and (kept_and (kept_and (kept_and (kept_and (kept_and (kept_and (kept_and (kept_and (kept_below _) (kept_ask _ _ _)) (kept_ask _ _ _)) (kept_ask _ _ _)) (kept_ask _ _ _)) (kept_ask _ _ _)) (kept_ask _ _ _)) (kept_ask _ _ _)) (kept_ask _ _ _)) (kept_cs _ _ _), fun _ _ h => h.1, ?_⟩)
  try simp only [List.getElem_toArray, List.getElem_cons_succ, List.getElem_cons_zero, Act.put, List.setIfInBounds_toArray, List.set_cons_succ, List.set_cons_zero]
  refine wpAnyV_only (i := 18) rfl (by kernel_rfl) rfl (fun u hS => wp_of_call (f := 13) (args := #[.slice (some ⟨ub.heap.size, 0, none⟩) 8 8]) (by go_simp) (first_v [va0, va1, va2, va3, va4, va5, va6, va7] (orS 0 (orS (stOf (findT t.nodes h0).isSome 1) (orS (kindS (findT t.nodes h0) true) (orS (stOf (nameL nm) 8) (orS (stOf (namedT t.nodes (findT t.nodes h0) nm).isSome 2) (orS (kindS (namedT t.nodes (findT t.nodes h0) nm) dir) (orS (stOf (emptyO (namedT t.nodes (findT t.nodes h0) nm)) 6) (orS (stOf (decide (t.count < 2147483648)) 7) 0)))))))) ub.heap.size u (by simp) hS.2 (Chain.cons (by omega) (hS.1.1.1.1.1.1.1.1.2 trivial) fun z0 => (Chain.cons (st_lt _ (by omega)) (hS.1.1.1.1.1.1.1.2 trivial) fun z1 => (Chain.cons (kind_lt _ _) (hS.1.1.1.1.1.1.2 trivial) fun z2 => (Chain.cons (st_lt _ (by omega)) (hS.1.1.1.1.1.2 trivial) fun z3 => (Chain.cons (st_lt _ (by omega)) (hS.1.1.1.1.2 trivial) fun z4 => (Chain.cons (kind_lt _ _) (hS.1.1.1.2 trivial) fun z5 => (Chain.cons (st_lt _ (by omega)) (hS.1.1.2 trivial) fun z6 => (Chain.cons (st_lt _ (by omega)) (hS.1.2 trivial) fun z7 => rfl))))))))) fun e u' ⟨he, hb⟩ => ⟨_, he, _, (kept_and (kept_and (kept_and (kept_and (kept_and (kept_and (kept_and (kept_and (kept_and (kept_below _) (kept_ask _ _ _)) (kept_ask _ _ _)) (kept_ask _ _ _)) (kept_ask _ _ _)) (kept_ask _ _ _)) (kept_ask _ _ _)) (kept_ask _ _ _)) (kept_ask _ _ _)) (kept_cs _ _ _)) _ _ hS hb, kept_and (kept_and (kept_and (kept_and (kept_and (kept_and (kept_and (kept_and (kept_and (kept_below _) (kept_ask _ _ _)) (kept_ask _ _ _)) (kept_ask _ _ _)) (kept_ask _ _ _)) (kept_ask _ _ _)) (kept_ask _ _ _)) (kept_ask _ _ _)) (kept_ask _ _ _)) (kept_cs _ _ _), fun _ _ h => h, ?_⟩)
  try simp only [List.getElem_toArray, List.getElem_cons_succ, List.getElem_cons_zero, Act.put, List.setIfInBounds_toArray, List.set_cons_succ, List.set_cons_zero]
  refine wpAnyV_only (i := 19) rfl (by kernel_rfl) rfl (fun u hS => wp_of_run2 (v := .int .u8 (((orS 0 (orS (stOf (findT t.nodes h0).isSome 1) (orS (kindS (findT t.nodes h0) true) (orS (stOf (nameL nm) 8) (orS (stOf (namedT t.nodes (findT t.nodes h0) nm).isSome 2) (orS (kindS (namedT t.nodes (findT t.nodes h0) nm) dir) (orS (stOf (emptyO (namedT t.nodes (findT t.nodes h0) nm)) 6) (orS (stOf (decide (t.count < 2147483648)) 7) 0)))))))) : Nat) : Int)) (by go_simp) ⟨_, hS, kept_and (kept_and (kept_and (kept_and (kept_and (kept_and (kept_and (kept_and (kept_and (kept_below _) (kept_ask _ _ _)) (kept_ask _ _ _)) (kept_ask _ _ _)) (kept_ask _ _ _)) (kept_ask _ _ _)) (kept_ask _ _ _)) (kept_ask _ _ _)) (kept_ask _ _ _)) (kept_cs _ _ _), fun _ _ h => h, ?_⟩)
  try simp only [List.getElem_toArray, List.getElem_cons_succ, List.getElem_cons_zero, Act.put, List.setIfInBounds_toArray, List.set_cons_succ, List.set_cons_zero]
  refine wpAnyV_done (by kernel_rfl) (fun w8 hz => ?_) _
  have B78 := Lib.hid hz.1.1.1.1.1.1.1.1.1
  clear hz
  rw [← HLS.out]
  have NX8 := Lib.hid (NX7.out.below B78.out)
  have B8 := Lib.hid (below_chain B7.out B78.out)
  have C38 := Lib.hid (C37.out.below B78.out C37.out.lt)
  by_cases hs : L.2 = 0
  · have e0 : ((L.2 : Int) != 0) = false := by rw [hs]; rfl
    have HS0 := Lib.hid hs
    obtain ⟨hct, d, m0, hd, hdd, hin, hnd, hL1⟩ := HL0.out hs
    obtain ⟨i, hi, hdi, rfl⟩ := nodeP_at HP.out hd
    obtain ⟨j, hj, hmj, rfl⟩ := nodeP_at HQ.out hnd
    have HDI := Lib.hid hdi
    have HMJ := Lib.hid hmj
    have HIN := Lib.hid (show d.ino = h0.1 from ((findT_some HM.out.rise).1 hd).2.1)
    have hi' : i < ls.length := by rw [NX.out.rd.2]; exact hi
    have HIS := Lib.hid (NX.out.is hi' hi)
    have HL1 := Lib.hid hL1
    have HEM := Lib.hid (show ls[i].1.data = [] by rw [HIS.out, HDI.out]; exact (HM.out.ok d (by rw [← hdi]; exact List.getElem_mem hi)).isDir hdd)
    have HENT := Lib.hid (show (nm, m0.ino) ∈ ls[i].1.names by rw [HIS.out, HDI.out]; exact hin)
    have HSE := Lib.hid (show SortE ls[i].1.names ∧ ls[i].1.names.length ≤ 1000 by rw [HIS.out]; exact ⟨(HSRT.out _ (List.getElem_mem hi)).1, by have := (HM.out.ok _ (List.getElem_mem hi)).many; omega⟩)
    obtain ⟨cur, hcur, hsz, hcl⟩ := NX8.out.cells
    obtain ⟨dv, ev, hf, hbs, hen⟩ := hcl i hi'
    have HCR := Lib.hid hcur
    have HSZ := Lib.hid hsz
    have HEN := Lib.hid hen
    have HQ5 := Lib.hid (show cur[i * 6 + 5]? = some ev by rw [hf 5 (by decide)]; rfl)
    have HBG := Lib.hid NX8.out.o.big
    have HBL := Lib.hid NX8.out.blk
    clear hd hdi hdd hin hnd hmj hL1 hcur hcl hf hbs hen hsz hs
    go_wp2_with fail
    refine (cutEntry_v g (i * 6) w3.heap.size nm m0.ino ls[i].1.names ev (fun k => ((w3.heap.size ≤ k ∧ k ≠ g4) ∧ k ≠ g) ∧ ls[i].2 k) cur w8 HCR.out HQ5.out HEN.out HSE.out.1 (fun h => h.1.2 rfl) HSE.out.2 HENT.out).mono ?_
    rintro e w10 ⟨rfl, v9, hv9, hc10, ho10, ht10⟩
    have HCR10 := Lib.hid hc10
    have T10 := Lib.hid ht10
    have HO10 := Lib.hid ho10
    clear hv9 hc10 ho10 ht10
    have hdat : NxB w10 w3.heap.size g4 (.slice (some ⟨g, 0, none⟩) t.nodes.length c) ss { t with nodes := t.nodes.set i { ls[i].1 with names := lessE ls[i].1.names nm } } (ls.set i ({ ls[i].1 with names := lessE ls[i].1.names nm }, fun k => (ls[i].2 k ∨ w8.heap.size ≤ k) ∧ k < w10.heap.size)) S := by
      refine NX8.out.cell HCR.out hi' (f := 5) (by decide) HCR10.out T10.out (fun k hk => hk.elim Or.inl fun e => Or.inr (Or.inl ?_)) fun cs hx => ?_
      · have := HEN.out.sub k e
        exact ⟨this.2, this.1.1.1, this.1.1.2, this.1.2⟩
      · obtain ⟨dv', nv', rfl, h1, h2, h3, h4, h5⟩ := hx
        exact ⟨dv', v9, rfl, bs_any h1 HEM.out, HO10.out.mono fun k _ hk => ⟨hk.1, .inl hk.2⟩, h3, h4, h5⟩
    have NX10 := Lib.hid hdat
    have C3a := Lib.hid (C38.out.turn T10.out (fun hk => by have := K3.out; have := HBL.out.1; rcases hk with hk | hk; omega; have := (HEN.out.sub _ hk).1.1.1; omega))
    have B10 := Lib.hid (show Below w.heap.size w w10 from B8.out.trans (Turn.below T10.out B8.out.size fun q hk => by have := HBL.out.1; have := B3.out.size; rcases hk with hk | hk; omega; have := (HEN.out.sub _ hk).1.1.1; omega))
    clear hdat
    go_wp2_with fail
    have hk1 := Cs.new w10 51 #[Value.pointer (some ⟨g, i * 6, none⟩)]
    have hb1 : Below w10.heap.size w10 (w10.alloc (.cells #[Value.pointer (some ⟨g, i * 6, none⟩)] 51)) := (Below.refl _ _).alloc (Nat.le_refl _) _
    obtain ⟨g11, hg11⟩ : ∃ g11, g11 = w10.heap.size := ⟨_, rfl⟩
    obtain ⟨w11, hw11⟩ : ∃ w11, w11 = w10.alloc (.cells #[Value.pointer (some ⟨g, i * 6, none⟩)] 51) := ⟨_, rfl⟩
    rw [← hw11] at hk1 hb1 ⊢
    rw [← hg11] at hk1 ⊢
    have C11 := Lib.hid hk1
    have B11 := Lib.hid hb1
    have G11 := Lib.hid (Nat.le_of_eq hg11.symm)
    clear hk1 hb1 hg11 hw11
    have HB11 := Lib.hid (NX10.out.o.box.below B11.out NX10.out.o.box.lt)
    have HCR11 := Lib.hid (HCR10.out.below B11.out HCR10.out.lt)
    refine (change_v (trC (.slice (some ⟨g, 0, none⟩) t.nodes.length c) t ss) t.boot t.count g4 g11 [(g, i * 6)] w11 HB11.out HTL.out rfl rfl HBG.out.2.1 (by omega) C11.out (by simp) (by have := NX10.out.o.box.lt; have := G11.out; omega) (fun p hp => ?_)).mono ?_
    · obtain rfl : p = (g, i * 6) := by simpa using hp
      have h1 := HBL.out
      have h2 := G11.out
      have h3 := HCR10.out.lt
      exact ⟨h1.2, by dsimp only; omega, _, _, HCR11.out, by have := HSZ.out; simp; omega⟩
    rintro e w12 ⟨rfl, hch⟩
    have T12 := Lib.hid hch.turn
    have HBX12 := Lib.hid (show Cs w12 g4 31 (trC (.slice (some ⟨g, 0, none⟩) t.nodes.length c) { t with count := t.count + 1 } ss).toArray from hch.box)
    have HCR12 := Lib.hid (show Cs w12 g 34 (((cur.setIfInBounds (i * 6 + 5) v9)).setIfInBounds (i * 6 + 3) (.int .u64 ((stampT t : Nat) : Int))) by have h1 := hch.blk g _ _ HBL.out.2 HCR11.out; rw [stamp_one] at h1; exact h1)
    clear hch
    have TT := Lib.hid (show Turn w10 w12 (fun q => q = g4 ∨ q = g) from (Turn.of_below B11.out _).trans (T12.out.mono fun q _ hq => by rcases hq with hq | ⟨p, hp, hq⟩; exact .inl hq; rw [List.mem_singleton] at hp; subst hp; exact .inr hq) fun _ _ h => h)
    have hst : stampT t < 18446744073709551616 := by unfold stampT; have := HBG.out.2.1; omega
    have NX12 := Lib.hid (NxB.stamp NX10.out HCR10.out (i := i) (by rw [List.length_set]; exact hi') hst (G := fun q => q = g4 ∨ q = g) HBX12.out HCR12.out TT.out (fun k hk => by rcases hk with hk | hk; exact .inl hk; exact .inr (.inl hk)) (by show t.count + 1 < 4294967296; omega))
    have C3b := Lib.hid (C3a.out.turn TT.out (by have := K3.out; have := HBL.out.1; have : w3.heap.size ≤ g4 := NX8.out.o.low; omega))
    have B12 := Lib.hid (show Below w.heap.size w w12 from B10.out.trans (Turn.below TT.out B10.out.size fun q e => by have := HBL.out.1; have := B3.out.size; have : w3.heap.size ≤ g4 := NX8.out.o.low; omega))
    obtain ⟨m, hm1⟩ : ∃ m, t.nodes.length = m + 1 := ⟨t.nodes.length - 1, by have := HR0.out; omega⟩
    obtain ⟨l2, hl2⟩ : ∃ l2, l2 = (t.nodes.set i { ls[i].1 with names := lessE ls[i].1.names nm }).set i (chgN (stampT t) ((ls.set i (({ ls[i].1 with names := lessE ls[i].1.names nm } : Nd), fun k => (ls[i].2 k ∨ w8.heap.size ≤ k) ∧ k < w10.heap.size))[i]'(by rw [List.length_set]; exact hi')).1) := ⟨_, rfl⟩
    have HEQ := Lib.hid (show l2 = updN t.nodes h0.1 fun m => { m with chg := stampT t, names := lessE m.names nm } by
      have e1 := set_updN HM.out.rise hi fun m => { m with chg := stampT t, names := lessE m.names nm }
      rw [hl2, show h0.1 = t.nodes[i].ino from (by rw [HDI.out, HIN.out]), ← e1, List.getElem_set_self, List.set_set, HIS.out]
      rfl)
    have HST2 := Lib.hid (show SortN l2 by rw [HEQ.out]; exact updN_sort (by intro m; rfl) HM.out.rise)
    have HL2 := Lib.hid (show l2.length = t.nodes.length by rw [HEQ.out, updN_len])
    have HJ2 := Lib.hid (show ∀ hj2 : j < l2.length, l2[j].ino = m0.ino from fun hj2 => by
      rw [inos_at (show inosL l2 = inosL t.nodes by rw [HEQ.out]; exact updN_inos _ (by intro m; rfl) _ _) hj2 hj, HMJ.out])
    rw [← hl2] at NX12
    obtain ⟨ls2, hls2⟩ : ∃ ls2, ls2 = (ls.set i (({ ls[i].1 with names := lessE ls[i].1.names nm } : Nd), fun k => (ls[i].2 k ∨ w8.heap.size ≤ k) ∧ k < w10.heap.size)).set i (chgN (stampT t) ((ls.set i (({ ls[i].1 with names := lessE ls[i].1.names nm } : Nd), fun k => (ls[i].2 k ∨ w8.heap.size ≤ k) ∧ k < w10.heap.size))[i]'(by rw [List.length_set]; exact hi')).1, ((ls.set i (({ ls[i].1 with names := lessE ls[i].1.names nm } : Nd), fun k => (ls[i].2 k ∨ w8.heap.size ≤ k) ∧ k < w10.heap.size))[i]'(by rw [List.length_set]; exact hi')).2) := ⟨_, rfl⟩
    rw [← hls2] at NX12
    clear hl2 hls2
    have hll2 : ls2.length = m + 1 := by rw [NX12.out.rd.2]; show l2.length = _; rw [HL2.out, hm1]
    go_wp2_with fail
    refine (cutNode_v w3.heap.size g4 g m c j (trC (.slice (some ⟨g, 0, none⟩) t.nodes.length c) { t with count := t.count + 1 } ss) ls2 (fun k => w3.heap.size ≤ k ∧ k ≠ g4) w12 HBX12.out (by rw [← hm1]; rfl) (by rw [← hm1]; exact NX12.out.o.own) hll2 (by have := HM.out.many; omega) (by omega) (by rw [NX12.out.o.nds]; exact HST2.out) HBL.out (fun h => h.2 rfl)).mono ?_
    rintro e w13 ⟨rfl, nv13, hv13, hc13, ho13, ht13⟩
    have HC13 := Lib.hid (show Cs w13 g4 31 (trC nv13 { t with count := t.count + 1 } ss).toArray from hc13)
    have T13 := Lib.hid (show Turn w12 w13 (fun q => q = g4 ∨ q = g) from ht13.mono fun q _ hq => hq.elim Or.inl fun e => Or.inr (by injection e with e; exact e.symm))
    have HT2 := Lib.hid (show TrAt w13 (w3.heap.size ≤ ·) (trC nv13 { t with count := t.count + 1 } ss) (removedT t h0.1 nm m0.ino) by
      have hj2 : j < l2.length := by rw [HL2.out]; exact hj
      refine NxB.last (t' := removedT t h0.1 nm m0.ino) NX12.out ho13 (fun k hk => hk.1) T13.out (fun k hk hgk => ?_) ?_ rfl ⟨HBG.out.1, HBG.out.2.1, by show t.count + 1 < 4294967296; omega⟩
      · obtain ⟨k1, k2, k3, k4⟩ := NX12.out.o.far k hk
        rcases hgk with rfl | rfl
        · exact k2 rfl
        · exact k3 rfl
      · rw [map_eraseIdx13, NX12.out.o.nds]
        show l2.eraseIdx j = outN (updN t.nodes h0.1 fun m => { m with chg := stampT t, names := lessE m.names nm }) m0.ino
        rw [erase_outN HST2.out hj2, HJ2.out hj2, HEQ.out])
    have C3c := Lib.hid (C3b.out.turn T13.out (by have := K3.out; have := HBL.out.1; have : w3.heap.size ≤ g4 := NX8.out.o.low; omega))
    have B13 := Lib.hid (show Below w.heap.size w w13 from B12.out.trans (Turn.below T13.out B12.out.size fun q e => by have := HBL.out.1; have := B3.out.size; have : w3.heap.size ≤ g4 := NX8.out.o.low; omega))
    clear hv13 hc13 ho13 ht13 hll2 hm1
    have HTL2 := Lib.hid HT2.out.len
    go_wp2_with (first
      | ((with_reducible show wpList _ _ _ _ _ w13); refine wpList_loadS rfl 31 _ rfl g4 rfl (trC nv13 { t with count := t.count + 1 } ss) HC13.out _ Tryd.underlying31 rfl (by rw [HTL2.out]; exact infoTree) ?_; go_frame)
      | ((with_reducible show wpList _ _ _ _ _ w13); refine wpList_storeS rfl 31 _ _ rfl g3 rfl (trC nv13 { t with count := t.count + 1 } ss) treeZ rfl C3c.out (by rw [HTL2.out]; rfl) HT2.out.one (by rw [HTL2.out]; exact infoTree) ?_; intro wz hk2 ht2; go_frame; have C3z := Lib.hid hk2; have Tz := Lib.hid ht2; have Bz := Lib.hid (B13.out.trans (ht2.below B13.out.size fun q e => e ▸ G3.out)); clear hk2 ht2)
      | fail)
    refine bodyPost_ret (results_agg_tmp (P := Tryd.prog) (p := 8) (ty := 31) rfl _ _ g3 0 (trC nv13 { t with count := t.count + 1 } ss) rfl (At.whole C3z.out) _ Tryd.underlying31 rfl (by rw [HTL2.out]; exact infoTree)) rfl ?_
    refine ⟨_, by rw [HS0.out]; rfl, ?_, Bz.out⟩
    rw [HL1.out]
    exact (HT2.out.turn Tz.out fun k hk e => by have := K3.out; omega).mono fun k _ hk => Or.inr (by have := B3.out.size; omega)
  · have e0 : ((L.2 : Int) != 0) = true := by simp; omega
    have HZ := Lib.hid (HLZ.out hs)
    go_wp2_with (first
      | ((with_reducible show wpList _ _ _ _ _ w8); refine wpList_loadS rfl 31 _ rfl g4 rfl (trC (.slice (some ⟨g, 0, none⟩) t.nodes.length c) t ss) NX8.out.o.box _ Tryd.underlying31 rfl (by rw [HTL.out]; exact infoTree) ?_; go_frame)
      | ((with_reducible show wpList _ _ _ _ _ w8); refine wpList_storeS rfl 31 _ _ rfl g3 rfl (trC (.slice (some ⟨g, 0, none⟩) t.nodes.length c) t ss) treeZ rfl C38.out (by rw [HTL.out]; rfl) HTI.out (by rw [HTL.out]; exact infoTree) ?_; intro w9 hk2 ht2; go_frame; have C39 := Lib.hid hk2; have T9 := Lib.hid ht2; clear hk2 ht2)
      | fail)
    refine bodyPost_ret (results_agg_tmp (P := Tryd.prog) (p := 8) (ty := 31) rfl _ _ g3 0 (trC (.slice (some ⟨g, 0, none⟩) t.nodes.length c) t ss) rfl (At.whole C39.out) _ Tryd.underlying31 rfl (by rw [HTL.out]; exact infoTree)) rfl ?_
    refine ⟨_, by rfl, ?_, B8.out.trans (T9.out.below B8.out.size fun q e => e ▸ G3.out)⟩
    rw [HZ.out]
    exact ((NX8.out.o.at).turn T9.out fun k hk e => by have := K3.out; omega).mono fun k _ hk => Or.inr (by have := B3.out.size; omega)

end Go.Proofs.YtenpmbfncnepgaaDoor
