/- The program: Make. -/
import Derived.Test.YtenpmbfncnepgaaDoorTzT
namespace Go.Proofs.YtenpmbfncnepgaaDoor
open Go.RowKit Go.Shelf
set_option linter.unusedVariables false
set_option maxRecDepth 100000
set_option linter.unusedSimpArgs false

theorem results_two_tmp {P : Program} {fn : Func} {p q u : Tmp} {ty ty' : TypeId} (h : fn.results = #[.cell p ty, .cell q ty', .tmp u]) (tmps : Array Value) (w : World) (b : Nat) (cs : List Value) (hp : tmps.getD p undef = .pointer (some ⟨b, 0, none⟩)) (hc : At w b 0 cs)
    (b' : Nat) (cs' : List Value) (hp2 : tmps.getD q undef = .pointer (some ⟨b', 0, none⟩)) (hc2 : At w b' 0 cs')
    (d : TypeDesc) (hu : P.underlying ty = some d) (hd : (match d with | .struct _ | .array _ _ => true | _ => false) = true) (hi : (P.info? ty).map (·.size) = some cs.length)
    (d' : TypeDesc) (hu' : P.underlying ty' = some d') (hd' : (match d' with | .struct _ | .array _ _ => true | _ => false) = true) (hi' : (P.info? ty').map (·.size) = some cs'.length) :
    (results fn tmps).run P w = .ok (.tuple #[.agg cs.toArray, .agg cs'.toArray, tmps.getD u undef]) w := by
  have hp' : tmps[p]?.getD undef = .pointer (some ⟨b, 0, none⟩) := by simpa using hp
  have hp2' : tmps[q]?.getD undef = .pointer (some ⟨b', 0, none⟩) := by simpa using hp2
  simp [results, h, hp', hp2', asAddr, run_loadVar_at w ty b 0 cs hc d hu hd hi, run_loadVar_at w ty' b' 0 cs' hc2 d' hu' hd' hi']
theorem stamp_two {b st o gm : Nat} (hne : gm ≠ b) (cur : Array Value) : stampA b st [(b, o), (gm, 0)] cur = cur.setIfInBounds (o + 3) (.int .u64 (st : Int)) := by
  simp [stampA, stampS, hne]
theorem stamp_new {b st o gm : Nat} (hne : b ≠ gm) (cur : Array Value) : stampA gm st [(b, o), (gm, 0)] cur = cur.setIfInBounds (0 + 3) (.int .u64 (st : Int)) := by
  simp [stampA, stampS, hne]
theorem ino_ge {t : Tr} (hm : MayT t) : ∀ j (hj : j < t.nodes.length), j + 1 ≤ t.nodes[j].ino
  | 0, hj => (hm.ok _ (List.getElem_mem hj)).pos
  | j + 1, hj => by
    have h1 := ino_ge hm j (by omega)
    have h2 := List.pairwise_iff_getElem.1 hm.rise j (j + 1) (by omega) hj (by omega)
    omega
theorem setE_free {l : List Ent} {nm : Key} {x : Nat} (h : inE l nm = none) : setE l nm x = withE l (nm, x) := by
  unfold setE
  rw [lessE_none h]
theorem some_st {r : Option Nd} {s : Nat} (h : stOf r.isSome (s + 1) = 0) : r.isSome = true := by
  cases r
  · simp [stOf] at h
  · rfl
theorem make_is {t : Tr} (hm : MayT t) (h : Nat × Nat) (nm : Key) (dir : Bool) : (makeT t h nm dir).2.2 = orS 0 (orS (stOf (findT t.nodes h).isSome 1) (orS (kindS (findT t.nodes h) true) (orS (stOf (nameL nm) 8) (orS (stOf (namedT t.nodes (findT t.nodes h) nm).isNone 3) (orS (stOf (decide (t.nodes.length < 64)) 7) (orS (stOf (roomB (findT t.nodes h) none none) 7) (orS (stOf (decide (t.lastGen < 2147483648)) 7) (orS (stOf (decide (t.count < 2147483648)) 7) 0)))))))) ∧
    ((makeT t h nm dir).2.2 ≠ 0 → (makeT t h nm dir).1 = t ∧ (makeT t h nm dir).2.1 = nd0) ∧ ((makeT t h nm dir).2.2 = 0 → t.count < 2147483648 ∧ t.lastGen < 2147483648 ∧ ∃ d, findT t.nodes h = some d ∧ d.dir = true ∧ nameL nm = true ∧ inE d.names nm = none ∧ (makeT t h nm dir).1 = madeT t h.1 nm dir ∧ (makeT t h nm dir).2.1 = newN t dir) := by
  unfold makeT
  rw [if_pos hm]
  cases hd : findT t.nodes h with
  | none => simp [orS, stOf]
  | some d =>
    have hmem := ((findT_some hm.rise).1 hd).1
    cases hdir : d.dir
    · simp [orS, stOf, kindS, hdir]
    · cases hnm : nameL nm
      · simp [orS, stOf, kindS, hdir, hnm]
      · cases hx : inE d.names nm with
        | some x =>
          obtain ⟨m, h1, h2, h3, h4⟩ := named_some hm hmem hx
          simp [orS, stOf, kindS, hdir, hnm, namedT, hx, h1]
        | none =>
          by_cases c1 : 64 ≤ t.nodes.length
          · have c1' : ¬ t.nodes.length < 64 := by omega
            simp [orS, stOf, kindS, hdir, hnm, namedT, hx, c1, c1', roomB]
          · have c1' : t.nodes.length < 64 := by omega
            by_cases c2 : 32 ≤ d.names.length
            · have c2' : ¬ d.names.length < 32 := by omega
              simp [orS, stOf, kindS, hdir, hnm, namedT, hx, c1, c1', c2, c2', roomB]
            · have c2' : d.names.length < 32 := by omega
              by_cases c3 : 2147483648 ≤ t.lastGen
              · have c3' : ¬ t.lastGen < 2147483648 := by omega
                simp [orS, stOf, kindS, hdir, hnm, namedT, hx, c1, c1', c2, c2', c3, c3', roomB]
              · have c3' : t.lastGen < 2147483648 := by omega
                by_cases c4 : 2147483648 ≤ t.count
                · have c4' : ¬ t.count < 2147483648 := by omega
                  simp [orS, stOf, kindS, hdir, hnm, namedT, hx, c1, c1', c2, c2', c3, c3', c4, c4', roomB]
                · have c4' : t.count < 2147483648 := by omega
                  simp [orS, stOf, kindS, hdir, hnm, namedT, hx, c1, c1', c2, c2', c3, c3', c4, c4', roomB]
set_option maxHeartbeats 16000000 in
theorem Make_v (t : Tr) (cs : List Value) (h0 : Nat × Nat) (nm : Key) (dir : Bool) (F : Nat → Prop) (w : World) (hT : Tabs w) (h : TrAt w F cs t) (hm : MayT t) :
    Calls Tryd.prog 4 #[.agg cs.toArray, .agg (hdC h0).toArray, sv nm, .bool dir] w fun e w' => ∃ ts ds, e = .returned (.tuple #[.agg ts.toArray, .agg ds.toArray, .int .u8 ((makeT t h0 nm dir).2.2 : Int)]) ∧ TrAt w' (NewF F w) ts (makeT t h0 nm dir).1 ∧ NdAt w' (NewF F w) ds (makeT t h0 nm dir).2.1 ∧ Below w.heap.size w w' := by
  have hmix : Tryd.prog.follows .mixedOrders = true := by kernel_rfl
  obtain ⟨LS, LN, L0⟩ := make_is hm h0 nm dir
  have HLS := Lib.hid LS
  have HLZ := Lib.hid LN
  have HL0 := Lib.hid L0
  have hs256 : (makeT t h0 nm dir).2.2 < 256 := by
    rw [LS]
    have := kind_lt (findT t.nodes h0) true
    unfold orS stOf
    repeat (first | omega | split)
  have HLT := Lib.hid hs256
  clear LS LN L0 hs256
  obtain ⟨L, hL⟩ : ∃ L, L = makeT t h0 nm dir := ⟨_, rfl⟩
  rw [← hL] at HLS HLZ HL0 HLT ⊢
  clear hL
  have HSRT := Lib.hid (show ∀ d ∈ t.nodes, SortE d.names ∧ d.names.length ≤ 140737488355328 from fun d hd => ⟨(hm.ok d hd).sort, by have := (hm.ok d hd).many; omega⟩)
  have HTR := Lib.hid (show TrAt w (fun k => F k ∧ k < w.heap.size) cs t from h.mono fun k hk hF => ⟨hF, hk⟩)
  have HSM := Lib.hid (small_of hm h)
  have HT := Lib.hid hT
  have HM := Lib.hid hm
  have HLN := Lib.hid h.len
  obtain ⟨hr0, -⟩ := root_first hm
  have HR0 := Lib.hid hr0
  clear hT hm h hr0
  go_enter Tryd.func4, Tryd.ntmps4
  go_wp2_with (first
    | ((with_reducible show wpList _ _ _ _ _ w); refine wpList_boxS rfl 31 _ rfl cs rfl ?_; intro g1 w1 hk1 hb1 hg1; go_frame; have C1 := Lib.hid hk1; have B1 := Lib.hid hb1; clear hk1 hb1 hg1)
    | ((with_reducible show wpList _ _ _ _ _ w1); refine wpList_boxS rfl 39 _ rfl (hdC h0) rfl ?_; intro g2 w2 hk1 hb1 hg1; go_frame; have C2 := Lib.hid hk1; have C12 := Lib.hid (C1.out.below hb1 C1.out.lt); have B2 := Lib.hid (below_chain B1.out hb1); clear hk1 hb1 hg1)
    | ((with_reducible show wpList _ _ _ _ _ w2); refine wpList_allocS rfl 31 rfl treeZ treeZero ?_; intro g3 w2b hk1 hb1 hg1; go_frame; have C3' := Lib.hid hk1; have C23' := Lib.hid (C2.out.below hb1 C2.out.lt); have C13' := Lib.hid (C12.out.below hb1 C12.out.lt); have B3' := Lib.hid (below_chain B2.out hb1); have G3 := Lib.hid (Nat.le_trans B2.out.size hg1); clear hk1 hb1 hg1)
    | ((with_reducible show wpList _ _ _ _ _ w2b); refine wpList_allocS rfl 34 rfl nodeZ nodeZero ?_; intro g9 w3 hk1 hb1 hg1; go_frame; have C9 := Lib.hid hk1; have C3 := Lib.hid (C3'.out.below hb1 C3'.out.lt); have C23 := Lib.hid (C23'.out.below hb1 C23'.out.lt); have C13 := Lib.hid (C13'.out.below hb1 C13'.out.lt); have B3 := Lib.hid (below_chain B3'.out hb1); have G9 := Lib.hid (Nat.le_trans B3'.out.size hg1); have N39 := Lib.hid (show g3 ≠ g9 by have := C3'.out.lt; omega); clear hk1 hb1 hg1)
    | ((with_reducible show wpList _ _ _ _ _ w3); refine wpList_loadS rfl 31 _ rfl g1 rfl cs C13.out _ Tryd.underlying31 rfl (by rw [HLN.out]; exact infoTree) ?_; go_frame)
    | fail)
  refine (Copy_v t cs (fun k => F k ∧ k < w.heap.size) w3 (HTR.out.below B3.out) HSM.out fun k hk => Nat.lt_of_lt_of_le hk.2 B3.out.size).mono ?_
  rintro e w4 ⟨nv, ss, ls, S, rfl, hto, hb⟩
  have HTO := Lib.hid hto
  have B34 := Lib.hid hb
  have B4 := Lib.hid (below_chain B3.out hb)
  have C24 := Lib.hid (C23.out.below hb C23.out.lt)
  have C34 := Lib.hid (C3.out.below hb C3.out.lt)
  have C94 := Lib.hid (C9.out.below hb C9.out.lt)
  have K3 := Lib.hid C3.out.lt
  have K9 := Lib.hid C9.out.lt
  obtain ⟨g, c, hnv, hlo⟩ : ∃ g c, nv = .slice (some ⟨g, 0, none⟩) t.nodes.length c ∧ w3.heap.size ≤ g := by
    have hll : ls.length = t.nodes.length := by rw [← hto.nds, List.length_map]
    obtain ⟨g, c, e, h1, -⟩ := hto.own.shape (fun e => by rw [e] at hll; have := HR0.out; simp at hll; omega)
    exact ⟨g, c, by rw [e, hll], h1⟩
  have HTL := Lib.hid (show (trC nv t ss).length = 16 by unfold trC; simp only [List.length_cons, hto.len.2])
  have HTI := Lib.hid (show ∀ v ∈ trC nv t ss, v.oneCell' = true from (TrO.at1 hto).one)
  subst hnv
  clear hto hb hlo
  go_wp2_with (first
    | ((with_reducible show wpList _ _ _ _ _ w4); refine wpList_allocS rfl 31 rfl treeZ treeZero ?_; intro g4 w5 hk1 hb1 hg1; go_frame; have C45 := Lib.hid hk1; have B45 := Lib.hid hb1; have C25 := Lib.hid (C24.out.below hb1 C24.out.lt); have C35 := Lib.hid (C34.out.below hb1 C34.out.lt); have C95 := Lib.hid (C94.out.below hb1 C94.out.lt); have B5 := Lib.hid (below_chain B4.out hb1); have G4 := Lib.hid hg1; have K24 := Lib.hid C24.out.lt; have K34 := Lib.hid C34.out.lt; clear hk1 hb1 hg1)
    | ((with_reducible show wpList _ _ _ _ _ w5); refine wpList_storeS rfl 31 _ _ rfl g4 rfl (trC (.slice (some ⟨g, 0, none⟩) t.nodes.length c) t ss) treeZ rfl C45.out (by rw [HTL.out]; rfl) HTI.out (by rw [HTL.out]; exact infoTree) ?_; intro w6 hk2 ht2; go_frame; have hb46 : Below w4.heap.size w4 w6 := below_turn B45.out ht2 B45.out.size G4.out; have NX := Lib.hid (TrO.nx HTO.out hb46 hk2 G4.out (Nat.le_trans B34.out.size G4.out)); have B6 := Lib.hid (below_chain B4.out hb46); have C26 := Lib.hid (C24.out.below hb46 C24.out.lt); have C36 := Lib.hid (C34.out.below hb46 C34.out.lt); have C96 := Lib.hid (C94.out.below hb46 C94.out.lt); have q0 : w6.cell? ⟨g4, 0, none⟩ = some (.slice (some ⟨g, 0, none⟩) t.nodes.length c) := hk2.cell 0 rfl; clear hk2 ht2 hb46)
    | ((with_reducible show wpList _ _ _ _ _ w6); refine wpList_loadS rfl 39 _ rfl g2 rfl (hdC h0) C26.out _ Tryd.underlying39 rfl infoHandle13 ?_; go_frame)
    | fail)
  refine (nodeOf_v t.nodes h0 (some ⟨g, 0, none⟩) c (w3.heap.size ≤ ·) w6 (by have := HM.out.many; omega) HM.out.rise NX.out.rd.1).mono ?_
  rintro e w7 ⟨⟨vp, rfl, hp⟩, hb⟩
  have HP := Lib.hid hp
  have NX7 := Lib.hid (NX.out.below hb)
  have B7 := Lib.hid (below_chain B6.out hb)
  have C37 := Lib.hid (C36.out.below hb C36.out.lt)
  have C97 := Lib.hid (C96.out.below hb C96.out.lt)
  have K34g := Lib.hid (Nat.lt_of_lt_of_le K34.out G4.out)
  clear hp hb q0
  have HMT := Lib.hid (May_at t _ _ w7 (HT.out.below B7.out) NX7.out.o.at HM.out)
  go_wp2_with fail
  refine wp_region_V [] (fun u => Below w7.heap.size w7 u) hmix ((Below.refl _ _).drew) ?_
  change wpAnyV _ _ _ _ _ _ _ _ _
  refine wpAnyV_take (i := 0) (v := .agg (trC (.slice (some ⟨g, 0, none⟩) t.nodes.length c) t ss).toArray) 12 (kept_below _) rfl (by kernel_rfl) (by kernel_rfl) (fun _ _ _ h => h) (fun _ h => h) (DoesV.loadT (by rfl) 31 _ rfl g4 0 rfl (trC (.slice (some ⟨g, 0, none⟩) t.nodes.length c) t ss) (fun w9 hS => At.whole (NX7.out.below hS).o.box) _ Tryd.underlying31 rfl (by rw [HTL.out]; exact infoTree)) ?_
  try simp only [List.getElem_toArray, List.getElem_cons_succ, List.getElem_cons_zero, Act.put, List.setIfInBounds_toArray, List.set_cons_succ, List.set_cons_zero]
  refine wpAnyV_take (i := 2) (v := vp) 12 (kept_below _) rfl (by kernel_rfl) (by kernel_rfl) (fun _ _ _ h => h) (fun _ h => h) (DoesV.reads (by rfl) fun w9 hS => by go_simp) ?_
  try simp only [List.getElem_toArray, List.getElem_cons_succ, List.getElem_cons_zero, Act.put, List.setIfInBounds_toArray, List.set_cons_succ, List.set_cons_zero]
  refine wpAnyV_take (i := 4) (v := vp) 12 (kept_below _) rfl (by kernel_rfl) (by kernel_rfl) (fun _ _ _ h => h) (fun _ h => h) (DoesV.reads (by rfl) fun w9 hS => by go_simp) ?_
  try simp only [List.getElem_toArray, List.getElem_cons_succ, List.getElem_cons_zero, Act.put, List.setIfInBounds_toArray, List.set_cons_succ, List.set_cons_zero]
  refine wpAnyV_take (i := 6) (v := sv nm) 12 (kept_below _) rfl (by kernel_rfl) (by kernel_rfl) (fun _ _ _ h => h) (fun _ h => h) (DoesV.reads (by rfl) fun w9 hS => by go_simp) ?_
  try simp only [List.getElem_toArray, List.getElem_cons_succ, List.getElem_cons_zero, Act.put, List.setIfInBounds_toArray, List.set_cons_succ, List.set_cons_zero]
  refine wpAnyV_take (i := 8) (v := .pointer (some ⟨g4, 0, none⟩)) 12 (kept_below _) rfl (by kernel_rfl) (by kernel_rfl) (fun _ _ _ h => h) (fun _ h => h) (DoesV.reads (by rfl) fun w9 hS => by go_simp) ?_
  try simp only [List.getElem_toArray, List.getElem_cons_succ, List.getElem_cons_zero, Act.put, List.setIfInBounds_toArray, List.set_cons_succ, List.set_cons_zero]
  refine wpAnyV_take (i := 9) (v := .slice (some ⟨g, 0, none⟩) t.nodes.length c) 12 (kept_below _) rfl (by kernel_rfl) (by kernel_rfl) (fun _ _ _ h => h) (fun _ h => h) (DoesV.reads (by rfl) fun w9 hS => by have q0 : w9.cell? ⟨g4, 0, none⟩ = some (.slice (some ⟨g, 0, none⟩) t.nodes.length c) := (NX7.out.below hS).o.box.cell 0 rfl; go_simp) ?_
  try simp only [List.getElem_toArray, List.getElem_cons_succ, List.getElem_cons_zero, Act.put, List.setIfInBounds_toArray, List.set_cons_succ, List.set_cons_zero]
  refine wpAnyV_take (i := 10) (v := vp) 12 (kept_below _) rfl (by kernel_rfl) (by kernel_rfl) (fun _ _ _ h => h) (fun _ h => h) (DoesV.reads (by rfl) fun w9 hS => by go_simp) ?_
  try simp only [List.getElem_toArray, List.getElem_cons_succ, List.getElem_cons_zero, Act.put, List.setIfInBounds_toArray, List.set_cons_succ, List.set_cons_zero]
  refine wpAnyV_take (i := 11) (v := sv nm) 12 (kept_below _) rfl (by kernel_rfl) (by kernel_rfl) (fun _ _ _ h => h) (fun _ h => h) (DoesV.reads (by rfl) fun w9 hS => by go_simp) ?_
  try simp only [List.getElem_toArray, List.getElem_cons_succ, List.getElem_cons_zero, Act.put, List.setIfInBounds_toArray, List.set_cons_succ, List.set_cons_zero]
  refine wpAnyV_take (i := 14) (v := .agg (trC (.slice (some ⟨g, 0, none⟩) t.nodes.length c) t ss).toArray) 12 (kept_below _) rfl (by kernel_rfl) (by kernel_rfl) (fun _ _ _ h => h) (fun _ h => h) (DoesV.loadT (by rfl) 31 _ rfl g4 0 rfl (trC (.slice (some ⟨g, 0, none⟩) t.nodes.length c) t ss) (fun w9 hS => At.whole (NX7.out.below hS).o.box) _ Tryd.underlying31 rfl (by rw [HTL.out]; exact infoTree)) ?_
  try simp only [List.getElem_toArray, List.getElem_cons_succ, List.getElem_cons_zero, Act.put, List.setIfInBounds_toArray, List.set_cons_succ, List.set_cons_zero]
  refine wpAnyV_take (i := 16) (v := vp) 12 (kept_below _) rfl (by kernel_rfl) (by kernel_rfl) (fun _ _ _ h => h) (fun _ h => h) (DoesV.reads (by rfl) fun w9 hS => by go_simp) ?_
  try simp only [List.getElem_toArray, List.getElem_cons_succ, List.getElem_cons_zero, Act.put, List.setIfInBounds_toArray, List.set_cons_succ, List.set_cons_zero]
  refine wpAnyV_take (i := 18) (v := .agg (trC (.slice (some ⟨g, 0, none⟩) t.nodes.length c) t ss).toArray) 12 (kept_below _) rfl (by kernel_rfl) (by kernel_rfl) (fun _ _ _ h => h) (fun _ h => h) (DoesV.loadT (by rfl) 31 _ rfl g4 0 rfl (trC (.slice (some ⟨g, 0, none⟩) t.nodes.length c) t ss) (fun w9 hS => At.whole (NX7.out.below hS).o.box) _ Tryd.underlying31 rfl (by rw [HTL.out]; exact infoTree)) ?_
  try simp only [List.getElem_toArray, List.getElem_cons_succ, List.getElem_cons_zero, Act.put, List.setIfInBounds_toArray, List.set_cons_succ, List.set_cons_zero]
  refine wpAnyV_take (i := 20) (v := .agg (trC (.slice (some ⟨g, 0, none⟩) t.nodes.length c) t ss).toArray) 12 (kept_below _) rfl (by kernel_rfl) (by kernel_rfl) (fun _ _ _ h => h) (fun _ h => h) (DoesV.loadT (by rfl) 31 _ rfl g4 0 rfl (trC (.slice (some ⟨g, 0, none⟩) t.nodes.length c) t ss) (fun w9 hS => At.whole (NX7.out.below hS).o.box) _ Tryd.underlying31 rfl (by rw [HTL.out]; exact infoTree)) ?_
  try simp only [List.getElem_toArray, List.getElem_cons_succ, List.getElem_cons_zero, Act.put, List.setIfInBounds_toArray, List.set_cons_succ, List.set_cons_zero]
  refine wpAnyV_only (i := 1) rfl (by kernel_rfl) rfl (fun u hS => wp_of_call (f := 14) (args := #[.agg (trC (.slice (some ⟨g, 0, none⟩) t.nodes.length c) t ss).toArray]) (by go_simp) (mayBe_v _ u HTL.out fun W hW => HMT.out W (below_chain (hS) hW)) fun e u' hu => ?_)
  try simp only [List.getElem_toArray, List.getElem_cons_succ, List.getElem_cons_zero, Act.put, List.setIfInBounds_toArray, List.set_cons_succ, List.set_cons_zero]
  obtain ⟨va0, he, kva0, hA, hb⟩ := hu
  have Ova0 := Lib.hid kva0
  have Qva0 : (fun u => Below w7.heap.size w7 u) u' := (kept_below _) _ _ hS hb
  refine ⟨va0, he, fun z => (Below w7.heap.size w7 z) ∧ (True → AskV z va0 0), ⟨Qva0, hA⟩, kept_and (kept_below _) (kept_ask _ _ _), fun _ _ h => h.1, ?_⟩
  clear hA hb he kva0 hS Qva0
  try simp only [List.getElem_toArray, List.getElem_cons_succ, List.getElem_cons_zero, Act.put, List.setIfInBounds_toArray, List.set_cons_succ, List.set_cons_zero]
  refine wpAnyV_only (i := 3) rfl (by kernel_rfl) rfl (fun u hS => wp_of_call (f := 15) (args := #[vp, .int .u8 1]) (by go_simp) (isThere_v vp 1 (some ⟨g, 0, none⟩) t.nodes (findT t.nodes h0) u HP.out) fun e u' hu => ?_)
  try simp only [List.getElem_toArray, List.getElem_cons_succ, List.getElem_cons_zero, Act.put, List.setIfInBounds_toArray, List.set_cons_succ, List.set_cons_zero]
  obtain ⟨va1, he, kva1, hA, hb⟩ := hu
  have Ova1 := Lib.hid kva1
  have Qva1 : (fun u => (Below w7.heap.size w7 u) ∧ (True → AskV u va0 0)) u' := (kept_and (kept_below _) (kept_ask _ _ _)) _ _ hS hb
  refine ⟨va1, he, fun z => ((Below w7.heap.size w7 z) ∧ (True → AskV z va0 0)) ∧ (True → AskV z va1 (stOf (findT t.nodes h0).isSome 1)), ⟨Qva1, hA⟩, kept_and (kept_and (kept_below _) (kept_ask _ _ _)) (kept_ask _ _ _), fun _ _ h => h.1, ?_⟩
  clear hA hb he kva1 hS Qva1
  try simp only [List.getElem_toArray, List.getElem_cons_succ, List.getElem_cons_zero, Act.put, List.setIfInBounds_toArray, List.set_cons_succ, List.set_cons_zero]
  refine wpAnyV_only (i := 5) rfl (by kernel_rfl) rfl (fun u hS => wp_of_call (f := 16) (args := #[vp, .bool true]) (by go_simp) (isKind_v vp true (some ⟨g, 0, none⟩) t.nodes (findT t.nodes h0) (w3.heap.size ≤ ·) u (NX7.out.below (hS.1.1)).rd.1 HP.out) fun e u' hu => ?_)
  try simp only [List.getElem_toArray, List.getElem_cons_succ, List.getElem_cons_zero, Act.put, List.setIfInBounds_toArray, List.set_cons_succ, List.set_cons_zero]
  obtain ⟨va2, he, kva2, hA, hb⟩ := hu
  have Ova2 := Lib.hid kva2
  have Qva2 : (fun u => ((Below w7.heap.size w7 u) ∧ (True → AskV u va0 0)) ∧ (True → AskV u va1 (stOf (findT t.nodes h0).isSome 1))) u' := (kept_and (kept_and (kept_below _) (kept_ask _ _ _)) (kept_ask _ _ _)) _ _ hS hb
  refine ⟨va2, he, fun z => (((Below w7.heap.size w7 z) ∧ (True → AskV z va0 0)) ∧ (True → AskV z va1 (stOf (findT t.nodes h0).isSome 1))) ∧ (True → AskV z va2 (kindS (findT t.nodes h0) true)), ⟨Qva2, hA⟩, kept_and (kept_and (kept_and (kept_below _) (kept_ask _ _ _)) (kept_ask _ _ _)) (kept_ask _ _ _), fun _ _ h => h.1, ?_⟩
  clear hA hb he kva2 hS Qva2
  try simp only [List.getElem_toArray, List.getElem_cons_succ, List.getElem_cons_zero, Act.put, List.setIfInBounds_toArray, List.set_cons_succ, List.set_cons_zero]
  refine wpAnyV_only (i := 7) rfl (by kernel_rfl) rfl (fun u hS => wp_of_call (f := 17) (args := #[sv nm]) (by go_simp) (isName_v nm u (HT.out.below (below_chain B7.out (hS.1.1.1)))) fun e u' hu => ?_)
  try simp only [List.getElem_toArray, List.getElem_cons_succ, List.getElem_cons_zero, Act.put, List.setIfInBounds_toArray, List.set_cons_succ, List.set_cons_zero]
  obtain ⟨va3, he, kva3, hA, hb⟩ := hu
  have Ova3 := Lib.hid kva3
  have Qva3 : (fun u => (((Below w7.heap.size w7 u) ∧ (True → AskV u va0 0)) ∧ (True → AskV u va1 (stOf (findT t.nodes h0).isSome 1))) ∧ (True → AskV u va2 (kindS (findT t.nodes h0) true))) u' := (kept_and (kept_and (kept_and (kept_below _) (kept_ask _ _ _)) (kept_ask _ _ _)) (kept_ask _ _ _)) _ _ hS hb
  refine ⟨va3, he, fun z => ((((Below w7.heap.size w7 z) ∧ (True → AskV z va0 0)) ∧ (True → AskV z va1 (stOf (findT t.nodes h0).isSome 1))) ∧ (True → AskV z va2 (kindS (findT t.nodes h0) true))) ∧ (True → AskV z va3 (stOf (nameL nm) 8)), ⟨Qva3, hA⟩, kept_and (kept_and (kept_and (kept_and (kept_below _) (kept_ask _ _ _)) (kept_ask _ _ _)) (kept_ask _ _ _)) (kept_ask _ _ _), fun _ _ h => h.1, ?_⟩
  clear hA hb he kva3 hS Qva3
  try simp only [List.getElem_toArray, List.getElem_cons_succ, List.getElem_cons_zero, Act.put, List.setIfInBounds_toArray, List.set_cons_succ, List.set_cons_zero]
  refine wpAnyV_only (i := 12) rfl (by kernel_rfl) rfl (fun u hS => wp_of_call (f := 19) (args := #[.slice (some ⟨g, 0, none⟩) t.nodes.length c, vp, sv nm]) (by go_simp) (nodeNamed_v t.nodes (some ⟨g, 0, none⟩) c vp (findT t.nodes h0) nm (w3.heap.size ≤ ·) u (by have := HM.out.many; omega) HM.out.rise HSRT.out (NX7.out.below (hS.1.1.1.1)).rd.1 HP.out) fun e u' hu => ?_)
  try simp only [List.getElem_toArray, List.getElem_cons_succ, List.getElem_cons_zero, Act.put, List.setIfInBounds_toArray, List.set_cons_succ, List.set_cons_zero]
  obtain ⟨⟨vn, he, hp⟩, hb⟩ := hu
  have HQ := Lib.hid hp
  refine ⟨vn, he, fun z => ((((Below w7.heap.size w7 z) ∧ (True → AskV z va0 0)) ∧ (True → AskV z va1 (stOf (findT t.nodes h0).isSome 1))) ∧ (True → AskV z va2 (kindS (findT t.nodes h0) true))) ∧ (True → AskV z va3 (stOf (nameL nm) 8)), (kept_and (kept_and (kept_and (kept_and (kept_below _) (kept_ask _ _ _)) (kept_ask _ _ _)) (kept_ask _ _ _)) (kept_ask _ _ _)) _ _ hS hb, kept_and (kept_and (kept_and (kept_and (kept_below _) (kept_ask _ _ _)) (kept_ask _ _ _)) (kept_ask _ _ _)) (kept_ask _ _ _), fun _ _ h => h, ?_⟩
  clear hp hb he hS
  try simp only [List.getElem_toArray, List.getElem_cons_succ, List.getElem_cons_zero, Act.put, List.setIfInBounds_toArray, List.set_cons_succ, List.set_cons_zero]
  refine wpAnyV_only (i := 13) rfl (by kernel_rfl) rfl (fun u hS => wp_of_call (f := 18) (args := #[vn]) (by go_simp) (isFree_v vn (some ⟨g, 0, none⟩) t.nodes (namedT t.nodes (findT t.nodes h0) nm) u HQ.out) fun e u' hu => ?_)
  try simp only [List.getElem_toArray, List.getElem_cons_succ, List.getElem_cons_zero, Act.put, List.setIfInBounds_toArray, List.set_cons_succ, List.set_cons_zero]
  obtain ⟨va4, he, kva4, hA, hb⟩ := hu
  have Ova4 := Lib.hid kva4
  have Qva4 : (fun u => ((((Below w7.heap.size w7 u) ∧ (True → AskV u va0 0)) ∧ (True → AskV u va1 (stOf (findT t.nodes h0).isSome 1))) ∧ (True → AskV u va2 (kindS (findT t.nodes h0) true))) ∧ (True → AskV u va3 (stOf (nameL nm) 8))) u' := (kept_and (kept_and (kept_and (kept_and (kept_below _) (kept_ask _ _ _)) (kept_ask _ _ _)) (kept_ask _ _ _)) (kept_ask _ _ _)) _ _ hS hb
  refine ⟨va4, he, fun z => (((((Below w7.heap.size w7 z) ∧ (True → AskV z va0 0)) ∧ (True → AskV z va1 (stOf (findT t.nodes h0).isSome 1))) ∧ (True → AskV z va2 (kindS (findT t.nodes h0) true))) ∧ (True → AskV z va3 (stOf (nameL nm) 8))) ∧ (True → AskV z va4 (stOf (namedT t.nodes (findT t.nodes h0) nm).isNone 3)), ⟨Qva4, hA⟩, kept_and (kept_and (kept_and (kept_and (kept_and (kept_below _) (kept_ask _ _ _)) (kept_ask _ _ _)) (kept_ask _ _ _)) (kept_ask _ _ _)) (kept_ask _ _ _), fun _ _ h => h.1, ?_⟩
  clear hA hb he kva4 hS Qva4
  try simp only [List.getElem_toArray, List.getElem_cons_succ, List.getElem_cons_zero, Act.put, List.setIfInBounds_toArray, List.set_cons_succ, List.set_cons_zero]
  refine wpAnyV_only (i := 15) rfl (by kernel_rfl) rfl (fun u hS => wp_of_call (f := 20) (args := #[.agg (trC (.slice (some ⟨g, 0, none⟩) t.nodes.length c) t ss).toArray]) (by go_simp) (hasNode_v _ t (w3.heap.size ≤ ·) u (NX7.out.below (hS.1.1.1.1.1)).o.at (by have := HM.out.many; omega)) fun e u' hu => ?_)
  try simp only [List.getElem_toArray, List.getElem_cons_succ, List.getElem_cons_zero, Act.put, List.setIfInBounds_toArray, List.set_cons_succ, List.set_cons_zero]
  obtain ⟨va5, he, kva5, hA, hb⟩ := hu
  have Ova5 := Lib.hid kva5
  have Qva5 : (fun u => (((((Below w7.heap.size w7 u) ∧ (True → AskV u va0 0)) ∧ (True → AskV u va1 (stOf (findT t.nodes h0).isSome 1))) ∧ (True → AskV u va2 (kindS (findT t.nodes h0) true))) ∧ (True → AskV u va3 (stOf (nameL nm) 8))) ∧ (True → AskV u va4 (stOf (namedT t.nodes (findT t.nodes h0) nm).isNone 3))) u' := (kept_and (kept_and (kept_and (kept_and (kept_and (kept_below _) (kept_ask _ _ _)) (kept_ask _ _ _)) (kept_ask _ _ _)) (kept_ask _ _ _)) (kept_ask _ _ _)) _ _ hS hb
  refine ⟨va5, he, fun z => ((((((Below w7.heap.size w7 z) ∧ (True → AskV z va0 0)) ∧ (True → AskV z va1 (stOf (findT t.nodes h0).isSome 1))) ∧ (True → AskV z va2 (kindS (findT t.nodes h0) true))) ∧ (True → AskV z va3 (stOf (nameL nm) 8))) ∧ (True → AskV z va4 (stOf (namedT t.nodes (findT t.nodes h0) nm).isNone 3))) ∧ (True → AskV z va5 (stOf (decide (t.nodes.length < 64)) 7)), ⟨Qva5, hA⟩, kept_and (kept_and (kept_and (kept_and (kept_and (kept_and (kept_below _) (kept_ask _ _ _)) (kept_ask _ _ _)) (kept_ask _ _ _)) (kept_ask _ _ _)) (kept_ask _ _ _)) (kept_ask _ _ _), fun _ _ h => h.1, ?_⟩
  clear hA hb he kva5 hS Qva5
  try simp only [List.getElem_toArray, List.getElem_cons_succ, List.getElem_cons_zero, Act.put, List.setIfInBounds_toArray, List.set_cons_succ, List.set_cons_zero]
  refine wpAnyV_only (i := 17) rfl (by kernel_rfl) rfl (fun u hS => wp_of_call (f := 21) (args := #[vp, .pointer none, .pointer none]) (by go_simp) (hasEntry_v vp (.pointer none) (.pointer none) (some ⟨g, 0, none⟩) t.nodes (findT t.nodes h0) none none (w3.heap.size ≤ ·) u HM.out.rise (NX7.out.below (hS.1.1.1.1.1.1)).rd.1 (fun n hn => by have := (HM.out.ok n hn).many; omega) HP.out (.inl ⟨rfl, rfl⟩) (.inl ⟨rfl, rfl⟩)) fun e u' hu => ?_)
  try simp only [List.getElem_toArray, List.getElem_cons_succ, List.getElem_cons_zero, Act.put, List.setIfInBounds_toArray, List.set_cons_succ, List.set_cons_zero]
  obtain ⟨va6, he, kva6, hA, hb⟩ := hu
  have Ova6 := Lib.hid kva6
  have Qva6 : (fun u => ((((((Below w7.heap.size w7 u) ∧ (True → AskV u va0 0)) ∧ (True → AskV u va1 (stOf (findT t.nodes h0).isSome 1))) ∧ (True → AskV u va2 (kindS (findT t.nodes h0) true))) ∧ (True → AskV u va3 (stOf (nameL nm) 8))) ∧ (True → AskV u va4 (stOf (namedT t.nodes (findT t.nodes h0) nm).isNone 3))) ∧ (True → AskV u va5 (stOf (decide (t.nodes.length < 64)) 7))) u' := (kept_and (kept_and (kept_and (kept_and (kept_and (kept_and (kept_below _) (kept_ask _ _ _)) (kept_ask _ _ _)) (kept_ask _ _ _)) (kept_ask _ _ _)) (kept_ask _ _ _)) (kept_ask _ _ _)) _ _ hS hb
  refine ⟨va6, he, fun z => (((((((Below w7.heap.size w7 z) ∧ (True → AskV z va0 0)) ∧ (True → AskV z va1 (stOf (findT t.nodes h0).isSome 1))) ∧ (True → AskV z va2 (kindS (findT t.nodes h0) true))) ∧ (True → AskV z va3 (stOf (nameL nm) 8))) ∧ (True → AskV z va4 (stOf (namedT t.nodes (findT t.nodes h0) nm).isNone 3))) ∧ (True → AskV z va5 (stOf (decide (t.nodes.length < 64)) 7))) ∧ ((findT t.nodes h0).isSome = true → AskV z va6 (stOf (roomB (findT t.nodes h0) none none) 7)), ⟨Qva6, hA⟩, kept_and (kept_and (kept_and (kept_and (kept_and (kept_and (kept_and (kept_below _) (kept_ask _ _ _)) (kept_ask _ _ _)) (kept_ask _ _ _)) (kept_ask _ _ _)) (kept_ask _ _ _)) (kept_ask _ _ _)) (kept_ask _ _ _), fun _ _ h => h.1, ?_⟩
  clear hA hb he kva6 hS Qva6
  try simp only [List.getElem_toArray, List.getElem_cons_succ, List.getElem_cons_zero, Act.put, List.setIfInBounds_toArray, List.set_cons_succ, List.set_cons_zero]
  refine wpAnyV_only (i := 19) rfl (by kernel_rfl) rfl (fun u hS => wp_of_call (f := 22) (args := #[.agg (trC (.slice (some ⟨g, 0, none⟩) t.nodes.length c) t ss).toArray]) (by go_simp) (hasGen_v _ t (w3.heap.size ≤ ·) u (NX7.out.below (hS.1.1.1.1.1.1.1)).o.at) fun e u' hu => ?_)
  try simp only [List.getElem_toArray, List.getElem_cons_succ, List.getElem_cons_zero, Act.put, List.setIfInBounds_toArray, List.set_cons_succ, List.set_cons_zero]
  obtain ⟨va7, he, kva7, hA, hb⟩ := hu
  have Ova7 := Lib.hid kva7
  have Qva7 : (fun u => (((((((Below w7.heap.size w7 u) ∧ (True → AskV u va0 0)) ∧ (True → AskV u va1 (stOf (findT t.nodes h0).isSome 1))) ∧ (True → AskV u va2 (kindS (findT t.nodes h0) true))) ∧ (True → AskV u va3 (stOf (nameL nm) 8))) ∧ (True → AskV u va4 (stOf (namedT t.nodes (findT t.nodes h0) nm).isNone 3))) ∧ (True → AskV u va5 (stOf (decide (t.nodes.length < 64)) 7))) ∧ ((findT t.nodes h0).isSome = true → AskV u va6 (stOf (roomB (findT t.nodes h0) none none) 7))) u' := (kept_and (kept_and (kept_and (kept_and (kept_and (kept_and (kept_and (kept_below _) (kept_ask _ _ _)) (kept_ask _ _ _)) (kept_ask _ _ _)) (kept_ask _ _ _)) (kept_ask _ _ _)) (kept_ask _ _ _)) (kept_ask _ _ _)) _ _ hS hb
  refine ⟨va7, he, fun z => ((((((((Below w7.heap.size w7 z) ∧ (True → AskV z va0 0)) ∧ (True → AskV z va1 (stOf (findT t.nodes h0).isSome 1))) ∧ (True → AskV z va2 (kindS (findT t.nodes h0) true))) ∧ (True → AskV z va3 (stOf (nameL nm) 8))) ∧ (True → AskV z va4 (stOf (namedT t.nodes (findT t.nodes h0) nm).isNone 3))) ∧ (True → AskV z va5 (stOf (decide (t.nodes.length < 64)) 7))) ∧ ((findT t.nodes h0).isSome = true → AskV z va6 (stOf (roomB (findT t.nodes h0) none none) 7))) ∧ (True → AskV z va7 (stOf (decide (t.lastGen < 2147483648)) 7)), ⟨Qva7, hA⟩, kept_and (kept_and (kept_and (kept_and (kept_and (kept_and (kept_and (kept_and (kept_below _) (kept_ask _ _ _)) (kept_ask _ _ _)) (kept_ask _ _ _)) (kept_ask _ _ _)) (kept_ask _ _ _)) (kept_ask _ _ _)) (kept_ask _ _ _)) (kept_ask _ _ _), fun _ _ h => h.1, ?_⟩
  clear hA hb he kva7 hS Qva7
  try simp only [List.getElem_toArray, List.getElem_cons_succ, List.getElem_cons_zero, Act.put, List.setIfInBounds_toArray, List.set_cons_succ, List.set_cons_zero]
  refine wpAnyV_only (i := 21) rfl (by kernel_rfl) rfl (fun u hS => wp_of_call (f := 23) (args := #[.agg (trC (.slice (some ⟨g, 0, none⟩) t.nodes.length c) t ss).toArray]) (by go_simp) (hasCount_v _ t (w3.heap.size ≤ ·) u (NX7.out.below (hS.1.1.1.1.1.1.1.1)).o.at) fun e u' hu => ?_)
  try simp only [List.getElem_toArray, List.getElem_cons_succ, List.getElem_cons_zero, Act.put, List.setIfInBounds_toArray, List.set_cons_succ, List.set_cons_zero]
  obtain ⟨va8, he, kva8, hA, hb⟩ := hu
  have Ova8 := Lib.hid kva8
  have Qva8 : (fun u => ((((((((Below w7.heap.size w7 u) ∧ (True → AskV u va0 0)) ∧ (True → AskV u va1 (stOf (findT t.nodes h0).isSome 1))) ∧ (True → AskV u va2 (kindS (findT t.nodes h0) true))) ∧ (True → AskV u va3 (stOf (nameL nm) 8))) ∧ (True → AskV u va4 (stOf (namedT t.nodes (findT t.nodes h0) nm).isNone 3))) ∧ (True → AskV u va5 (stOf (decide (t.nodes.length < 64)) 7))) ∧ ((findT t.nodes h0).isSome = true → AskV u va6 (stOf (roomB (findT t.nodes h0) none none) 7))) ∧ (True → AskV u va7 (stOf (decide (t.lastGen < 2147483648)) 7))) u' := (kept_and (kept_and (kept_and (kept_and (kept_and (kept_and (kept_and (kept_and (kept_below _) (kept_ask _ _ _)) (kept_ask _ _ _)) (kept_ask _ _ _)) (kept_ask _ _ _)) (kept_ask _ _ _)) (kept_ask _ _ _)) (kept_ask _ _ _)) (kept_ask _ _ _)) _ _ hS hb
  refine ⟨va8, he, fun z => (((((((((Below w7.heap.size w7 z) ∧ (True → AskV z va0 0)) ∧ (True → AskV z va1 (stOf (findT t.nodes h0).isSome 1))) ∧ (True → AskV z va2 (kindS (findT t.nodes h0) true))) ∧ (True → AskV z va3 (stOf (nameL nm) 8))) ∧ (True → AskV z va4 (stOf (namedT t.nodes (findT t.nodes h0) nm).isNone 3))) ∧ (True → AskV z va5 (stOf (decide (t.nodes.length < 64)) 7))) ∧ ((findT t.nodes h0).isSome = true → AskV z va6 (stOf (roomB (findT t.nodes h0) none none) 7))) ∧ (True → AskV z va7 (stOf (decide (t.lastGen < 2147483648)) 7))) ∧ (True → AskV z va8 (stOf (decide (t.count < 2147483648)) 7)), ⟨Qva8, hA⟩, kept_and (kept_and (kept_and (kept_and (kept_and (kept_and (kept_and (kept_and (kept_and (kept_below _) (kept_ask _ _ _)) (kept_ask _ _ _)) (kept_ask _ _ _)) (kept_ask _ _ _)) (kept_ask _ _ _)) (kept_ask _ _ _)) (kept_ask _ _ _)) (kept_ask _ _ _)) (kept_ask _ _ _), fun _ _ h => h.1, ?_⟩
  clear hA hb he kva8 hS Qva8
  try simp only [List.getElem_toArray, List.getElem_cons_succ, List.getElem_cons_zero, Act.put, List.setIfInBounds_toArray, List.set_cons_succ, List.set_cons_zero]
  refine wpAnyV_only (i := 22) rfl (by kernel_rfl) rfl (fun ub hS => wp_of_run2 (run_asks9 rfl rfl rfl rfl rfl rfl rfl rfl rfl rfl Ova0.out Ova1.out Ova2.out Ova3.out Ova4.out Ova5.out Ova6.out Ova7.out Ova8.out) ⟨fun z => (fun u => (((((((((Below w7.heap.size w7 u) ∧ (True → AskV u va0 0)) ∧ (True → AskV u va1 (stOf (findT t.nodes h0).isSome 1))) ∧ (True → AskV u va2 (kindS (findT t.nodes h0) true))) ∧ (True → AskV u va3 (stOf (nameL nm) 8))) ∧ (True → AskV u va4 (stOf (namedT t.nodes (findT t.nodes h0) nm).isNone 3))) ∧ (True → AskV u va5 (stOf (decide (t.nodes.length < 64)) 7))) ∧ ((findT t.nodes h0).isSome = true → AskV u va6 (stOf (roomB (findT t.nodes h0) none none) 7))) ∧ (True → AskV u va7 (stOf (decide (t.lastGen < 2147483648)) 7))) ∧ (True → AskV u va8 (stOf (decide (t.count < 2147483648)) 7))) z ∧ Cs z ub.heap.size 55 #[va0, va1, va2, va3, va4, va5, va6, va7, va8], ⟨(kept_and (kept_and (kept_and (kept_and (kept_and (kept_and (kept_and (kept_and (kept_and (kept_below _) (kept_ask _ _ _)) (kept_ask _ _ _)) (kept_ask _ _ _)) (kept_ask _ _ _)) (kept_ask _ _ _)) (kept_ask _ _ _)) (kept_ask _ _ _)) (kept_ask _ _ _)) (kept_ask _ _ _)) _ _ hS ((Below.refl _ _).alloc (Nat.le_refl _) _), Cs.new _ _ _⟩, kept_and (kept_and (kept_and (kept_and (kept_and (kept_and (kept_and (kept_and (kept_and (kept_and (kept_below _) (kept_ask _ _ _)) (kept_ask _ _ _)) (kept_ask _ _ _)) (kept_ask _ _ _)) (kept_ask _ _ _)) (kept_ask _ _ _)) (kept_ask _ _ _)) (kept_ask _ _ _)) (kept_ask _ _ _)) (kept_cs _ _ _), fun _ _ h => h.1, ?_⟩)
  try simp only [List.getElem_toArray, List.getElem_cons_succ, List.getElem_cons_zero, Act.put, List.setIfInBounds_toArray, List.set_cons_succ, List.set_cons_zero]
  refine wpAnyV_only (i := 23) rfl (by kernel_rfl) rfl (fun u hS => wp_of_call (f := 13) (args := #[.slice (some ⟨ub.heap.size, 0, none⟩) 9 9]) (by go_simp) (first_v [va0, va1, va2, va3, va4, va5, va6, va7, va8] (orS 0 (orS (stOf (findT t.nodes h0).isSome 1) (orS (kindS (findT t.nodes h0) true) (orS (stOf (nameL nm) 8) (orS (stOf (namedT t.nodes (findT t.nodes h0) nm).isNone 3) (orS (stOf (decide (t.nodes.length < 64)) 7) (orS (stOf (roomB (findT t.nodes h0) none none) 7) (orS (stOf (decide (t.lastGen < 2147483648)) 7) (orS (stOf (decide (t.count < 2147483648)) 7) 0))))))))) ub.heap.size u (by simp) hS.2 (Chain.cons (by omega) (hS.1.1.1.1.1.1.1.1.1.2 trivial) fun z0 => (Chain.cons (st_lt _ (by omega)) (hS.1.1.1.1.1.1.1.1.2 trivial) fun z1 => (Chain.cons (kind_lt _ _) (hS.1.1.1.1.1.1.1.2 trivial) fun z2 => (Chain.cons (st_lt _ (by omega)) (hS.1.1.1.1.1.1.2 trivial) fun z3 => (Chain.cons (st_lt _ (by omega)) (hS.1.1.1.1.1.2 trivial) fun z4 => (Chain.cons (st_lt _ (by omega)) (hS.1.1.1.1.2 trivial) fun z5 => (Chain.cons (st_lt _ (by omega)) (hS.1.1.1.2 (some_st z1)) fun z6 => (Chain.cons (st_lt _ (by omega)) (hS.1.1.2 trivial) fun z7 => (Chain.cons (st_lt _ (by omega)) (hS.1.2 trivial) fun z8 => rfl)))))))))) fun e u' ⟨he, hb⟩ => ⟨_, he, _, (kept_and (kept_and (kept_and (kept_and (kept_and (kept_and (kept_and (kept_and (kept_and (kept_and (kept_below _) (kept_ask _ _ _)) (kept_ask _ _ _)) (kept_ask _ _ _)) (kept_ask _ _ _)) (kept_ask _ _ _)) (kept_ask _ _ _)) (kept_ask _ _ _)) (kept_ask _ _ _)) (kept_ask _ _ _)) (kept_cs _ _ _)) _ _ hS hb, kept_and (kept_and (kept_and (kept_and (kept_and (kept_and (kept_and (kept_and (kept_and (kept_and (kept_below _) (kept_ask _ _ _)) (kept_ask _ _ _)) (kept_ask _ _ _)) (kept_ask _ _ _)) (kept_ask _ _ _)) (kept_ask _ _ _)) (kept_ask _ _ _)) (kept_ask _ _ _)) (kept_ask _ _ _)) (kept_cs _ _ _), fun _ _ h => h, ?_⟩)
  try simp only [List.getElem_toArray, List.getElem_cons_succ, List.getElem_cons_zero, Act.put, List.setIfInBounds_toArray, List.set_cons_succ, List.set_cons_zero]
  refine wpAnyV_only (i := 24) rfl (by kernel_rfl) rfl (fun u hS => wp_of_run2 (v := .int .u8 (((orS 0 (orS (stOf (findT t.nodes h0).isSome 1) (orS (kindS (findT t.nodes h0) true) (orS (stOf (nameL nm) 8) (orS (stOf (namedT t.nodes (findT t.nodes h0) nm).isNone 3) (orS (stOf (decide (t.nodes.length < 64)) 7) (orS (stOf (roomB (findT t.nodes h0) none none) 7) (orS (stOf (decide (t.lastGen < 2147483648)) 7) (orS (stOf (decide (t.count < 2147483648)) 7) 0))))))))) : Nat) : Int)) (by go_simp) ⟨_, hS, kept_and (kept_and (kept_and (kept_and (kept_and (kept_and (kept_and (kept_and (kept_and (kept_and (kept_below _) (kept_ask _ _ _)) (kept_ask _ _ _)) (kept_ask _ _ _)) (kept_ask _ _ _)) (kept_ask _ _ _)) (kept_ask _ _ _)) (kept_ask _ _ _)) (kept_ask _ _ _)) (kept_ask _ _ _)) (kept_cs _ _ _), fun _ _ h => h, ?_⟩)
  try simp only [List.getElem_toArray, List.getElem_cons_succ, List.getElem_cons_zero, Act.put, List.setIfInBounds_toArray, List.set_cons_succ, List.set_cons_zero]
  refine wpAnyV_done (by kernel_rfl) (fun w8 hz => ?_) _
  have B78 := Lib.hid hz.1.1.1.1.1.1.1.1.1.1
  clear hz
  rw [← HLS.out]
  have NX8 := Lib.hid (NX7.out.below B78.out)
  have B8 := Lib.hid (below_chain B7.out B78.out)
  have C38 := Lib.hid (C37.out.below B78.out C37.out.lt)
  have C98 := Lib.hid (C97.out.below B78.out C97.out.lt)
  by_cases hs : L.2.2 = 0
  · have e0 : ((L.2.2 : Int) != 0) = false := by rw [hs]; rfl
    have HS0 := Lib.hid hs
    obtain ⟨hct, hlg, d, hd, hdd, hnmL, hin, hL1, hL2⟩ := HL0.out hs
    obtain ⟨i, hi, hdi, rfl⟩ := nodeP_at HP.out hd
    have HDI := Lib.hid hdi
    have HIN := Lib.hid (show d.ino = h0.1 from ((findT_some HM.out.rise).1 hd).2.1)
    have hi' : i < ls.length := by rw [NX.out.rd.2]; exact hi
    have HIS := Lib.hid (NX.out.is hi' hi)
    have HL1 := Lib.hid hL1
    have HLn := Lib.hid hL2
    have HFRE := Lib.hid hin
    have HNL := Lib.hid (name_len hnmL)
    have HEM := Lib.hid (show ls[i].1.data = [] by rw [HIS.out, HDI.out]; exact (HM.out.ok d (by rw [← hdi]; exact List.getElem_mem hi)).isDir hdd)
    have HSE := Lib.hid (show SortE ls[i].1.names ∧ ls[i].1.names.length ≤ 1000 by rw [HIS.out]; exact ⟨(HSRT.out _ (List.getElem_mem hi)).1, by have := (HM.out.ok _ (List.getElem_mem hi)).many; omega⟩)
    obtain ⟨cur, hcur, hsz, hcl⟩ := NX8.out.cells
    obtain ⟨dv, ev, hf, hbs, hen⟩ := hcl i hi'
    have HCR := Lib.hid hcur
    have HSZ := Lib.hid hsz
    have HEN := Lib.hid hen
    have HQ5 := Lib.hid (show cur[i * 6 + 5]? = some ev by rw [hf 5 (by decide)]; rfl)
    have HBG := Lib.hid NX8.out.o.big
    have HBL := Lib.hid NX8.out.blk
    have q0 : w8.cell? ⟨g4, 0, none⟩ = some (.slice (some ⟨g, 0, none⟩) t.nodes.length c) := NX8.out.o.box.cell 0 rfl
    clear hd hdi hdd hin hL1 hL2 hcur hcl hf hbs hen hsz hs hnmL
    go_wp2_with fail
    refine (gap_v t.nodes (some ⟨g, 0, none⟩) c (w3.heap.size ≤ ·) w8 (by have := HM.out.many; omega) NX8.out.rd.1).mono ?_
    rintro e w8' ⟨⟨at1, rfl, hfr, hat, hgp⟩, rfl⟩
    have HFR := Lib.hid hfr
    have HAT := Lib.hid hat
    have HGP := Lib.hid hgp
    clear hfr hat hgp q0
    have q1 : w8.cell? ⟨g4, 1, none⟩ = some (.int .u32 (t.lastGen : Int)) := NX8.out.o.box.cell 1 rfl
    have i1 : IntKind.u32.wrap ((t.lastGen : Int) + 1) = ((t.lastGen + 1 : Nat) : Int) := by rw [IntWalk.u32_in _ (by omega)]; omega
    have i2 : IntKind.u32.wrap (at1 : Int) = at1 := IntWalk.u32_in _ (by have := HM.out.many; have := HAT.out; omega)
    have i3 : IntKind.u32.wrap ((at1 : Int) + 1) = ((at1 + 1 : Nat) : Int) := by rw [IntWalk.u32_in _ (by have := HM.out.many; have := HAT.out; omega)]; omega
    go_wp2_with (first
      | ((with_reducible show wpList _ _ _ _ _ w8); refine wpList_store1 rfl 24 _ _ rfl g4 1 rfl (.int .u32 ((t.lastGen + 1 : Nat) : Int)) (by first | rfl | (simp [i1]; done)) rfl infoU32c _ _ NX8.out.o.box (by have := HTL.out; simp; omega) ?_; intro w9 hk2 ht2; go_frame; have HB9 := Lib.hid (show Cs w9 g4 31 (trC (.slice (some ⟨g, 0, none⟩) t.nodes.length c) { t with lastGen := t.lastGen + 1 } ss).toArray from by simpa [trC] using hk2); have T9 := Lib.hid ht2; have q1' : w9.cell? ⟨g4, 1, none⟩ = some (.int .u32 ((t.lastGen + 1 : Nat) : Int)) := HB9.out.cell 1 rfl; clear hk2 ht2 q1)
      | fail)
    have hk1 := Cs.new w9 34 #[Value.int .u32 ((at1 : Int) + 1), Value.int .u32 ((t.lastGen : Int) + 1), Value.bool dir, Value.int .u64 0, Value.slice none 0 0, Value.slice none 0 0]
    have hb1 : Below w9.heap.size w9 (w9.alloc (.cells #[Value.int .u32 ((at1 : Int) + 1), Value.int .u32 ((t.lastGen : Int) + 1), Value.bool dir, Value.int .u64 0, Value.slice none 0 0, Value.slice none 0 0] 34)) := (Below.refl _ _).alloc (Nat.le_refl _) _
    obtain ⟨gm, hgm⟩ : ∃ gm, gm = w9.heap.size := ⟨_, rfl⟩
    obtain ⟨wA, hwA⟩ : ∃ wA, wA = w9.alloc (.cells #[Value.int .u32 ((at1 : Int) + 1), Value.int .u32 ((t.lastGen : Int) + 1), Value.bool dir, Value.int .u64 0, Value.slice none 0 0, Value.slice none 0 0] 34) := ⟨_, rfl⟩
    rw [← hwA] at hk1 hb1 ⊢
    rw [← hgm] at hk1 ⊢
    have CMA := Lib.hid (show Cs wA gm 34 (ndC ⟨at1 + 1, t.lastGen + 1, dir, 0, [], []⟩ (.slice none 0 0) (.slice none 0 0)).toArray from hk1)
    have B9A := Lib.hid hb1
    have GM := Lib.hid (Nat.le_of_eq hgm.symm)
    clear hk1 hb1 hgm hwA q1'
    have hNl : w3.heap.size ≤ g4 := NX8.out.o.low
    have hgl : g < w8.heap.size := HCR.out.lt
    have hbx : g4 < w8.heap.size := NX8.out.o.box.lt
    have h89 : w8.heap.size ≤ w9.heap.size := T9.out.size
    have h9A : w9.heap.size ≤ wA.heap.size := B9A.out.size
    have hNg : w3.heap.size ≤ g ∧ g ≠ g4 := HBL.out
    have HN := Lib.hid (show w3.heap.size ≤ g4 ∧ g < w8.heap.size ∧ g4 < w8.heap.size ∧ w8.heap.size ≤ w9.heap.size ∧ w9.heap.size ≤ wA.heap.size ∧ w3.heap.size ≤ g ∧ g ≠ g4 ∧ w9.heap.size ≤ gm ∧ gm < wA.heap.size from ⟨hNl, hgl, hbx, h89, h9A, hNg.1, hNg.2, GM.out, CMA.out.lt⟩)
    clear hNl hgl hbx h89 h9A hNg
    have HCR9 := Lib.hid (HCR.out.turn T9.out (fun e => HN.out.2.2.2.2.2.2.1 e))
    have NX9 := Lib.hid (NX8.out.chg HCR.out (t' := { t with lastGen := t.lastGen + 1 }) (cur' := cur) HB9.out HCR9.out T9.out (fun k hk => .inl hk) (fun W F h => h) rfl rfl rfl NX8.out.o.nds rfl ⟨by show t.lastGen + 1 < 4294967296; omega, HBG.out.2⟩)
    have NXA := Lib.hid (NX9.out.below B9A.out)
    have HCRA := Lib.hid (HCR9.out.below B9A.out HCR9.out.lt)
    have HENA := Lib.hid ((HEN.out.turn T9.out (fun k hk e => hk.1.1.2 e)).below B9A.out)
    refine (setEntry_v g (i * 6) w3.heap.size nm (at1 + 1) ls[i].1.names ev (fun k => (((w3.heap.size ≤ k ∧ k ≠ g4) ∧ k ≠ g) ∧ ls[i].2 k) ∨ wA.heap.size ≤ k) cur wA HCRA.out HQ5.out (HENA.out.mono fun k _ hk => .inl hk) HSE.out.1 (fun k hk => .inr hk) (fun h => h.elim (fun h => h.1.2 rfl) (fun h => by have := HN.out; omega)) HSE.out.2 (by have := HNL.out; omega) (by have := HM.out.many; have := HAT.out; omega) (by have := HN.out; omega)).mono ?_
    rintro e w10 ⟨rfl, v9, hv9, hc10, ho10, ht10⟩
    have HCR10 := Lib.hid hc10
    have T10 := Lib.hid ht10
    have HO10 := Lib.hid ho10
    clear hv9 hc10 ho10 ht10
    have hdat : NxB w10 w3.heap.size g4 (.slice (some ⟨g, 0, none⟩) t.nodes.length c) ss { t with lastGen := t.lastGen + 1, nodes := t.nodes.set i { ls[i].1 with names := setE ls[i].1.names nm (at1 + 1) } } (ls.set i ({ ls[i].1 with names := setE ls[i].1.names nm (at1 + 1) }, fun k => (ls[i].2 k ∨ wA.heap.size ≤ k) ∧ k < w10.heap.size)) S := by
      refine NXA.out.cell HCRA.out hi' (f := 5) (by decide) HCR10.out T10.out (fun k hk => hk.elim Or.inl fun e => Or.inr (Or.inl ?_)) fun cs hx => ?_
      · have := HEN.out.sub k e
        exact ⟨this.2, this.1.1.1, this.1.1.2, this.1.2⟩
      · obtain ⟨dv', nv', rfl, h1, h2, h3, h4, h5⟩ := hx
        have hn := HN.out
        exact ⟨dv', v9, rfl, bs_any h1 HEM.out, HO10.out.mono fun k _ hk => hk.elim (fun h => ⟨h.1, .inl h.2⟩) (fun h => ⟨⟨⟨by omega, by omega⟩, by omega⟩, .inr h⟩), h3, h4, h5⟩
    have NX10 := Lib.hid hdat
    have HOB := Lib.hid (fun k (hk : ev.ownBlock = some k) => (HEN.out.lt k hk).2)
    have CM10 := Lib.hid (CMA.out.turn T10.out (fun hk => by have := HN.out; rcases hk with hk | hk; omega; have := HOB.out _ hk; omega))
    have C39 := Lib.hid (((C38.out.turn T9.out (by have := K3.out; have := HN.out; omega)).below B9A.out (by have := C38.out.lt; have := HN.out; omega)).turn T10.out (fun hk => by have := K3.out; have := HN.out; rcases hk with hk | hk; omega; have := (HEN.out.sub _ hk).1.1.1; omega))
    have C99 := Lib.hid (((C98.out.turn T9.out (by have := K9.out; have := HN.out; omega)).below B9A.out (by have := C98.out.lt; have := HN.out; omega)).turn T10.out (fun hk => by have := K9.out; have := HN.out; rcases hk with hk | hk; omega; have := (HEN.out.sub _ hk).1.1.1; omega))
    have B10 := Lib.hid (show Below w.heap.size w w10 from ((B8.out.trans (Turn.below T9.out B8.out.size fun q hk => by have := B3.out.size; have := HN.out; omega)).trans (B9A.out.mono (by have := B8.out.size; have := HN.out; omega))).trans (Turn.below T10.out (by have := B8.out.size; have := HN.out; omega) fun q hk => by have := HN.out; have := B3.out.size; rcases hk with hk | hk; omega; have := (HEN.out.sub _ hk).1.1.1; omega))
    clear hdat
    go_wp2_with fail
    have hk1 := Cs.new w10 51 #[Value.pointer (some ⟨g, i * 6, none⟩), Value.pointer (some ⟨gm, 0, none⟩)]
    have hb1 : Below w10.heap.size w10 (w10.alloc (.cells #[Value.pointer (some ⟨g, i * 6, none⟩), Value.pointer (some ⟨gm, 0, none⟩)] 51)) := (Below.refl _ _).alloc (Nat.le_refl _) _
    obtain ⟨g11, hg11⟩ : ∃ g11, g11 = w10.heap.size := ⟨_, rfl⟩
    obtain ⟨w11, hw11⟩ : ∃ w11, w11 = w10.alloc (.cells #[Value.pointer (some ⟨g, i * 6, none⟩), Value.pointer (some ⟨gm, 0, none⟩)] 51) := ⟨_, rfl⟩
    rw [← hw11] at hk1 hb1 ⊢
    rw [← hg11] at hk1 ⊢
    have C11 := Lib.hid hk1
    have B11 := Lib.hid hb1
    have G11 := Lib.hid (Nat.le_of_eq hg11.symm)
    clear hk1 hb1 hg11 hw11
    have HB11 := Lib.hid (NX10.out.o.box.below B11.out NX10.out.o.box.lt)
    have HCR11 := Lib.hid (HCR10.out.below B11.out HCR10.out.lt)
    have CM11 := Lib.hid (CM10.out.below B11.out CM10.out.lt)
    refine (change_v (trC (.slice (some ⟨g, 0, none⟩) t.nodes.length c) { t with lastGen := t.lastGen + 1 } ss) t.boot t.count g4 g11 [(g, i * 6), (gm, 0)] w11 HB11.out HTL.out rfl rfl HBG.out.2.1 (by omega) C11.out (by simp) (by have := NX10.out.o.box.lt; have := G11.out; omega) (fun p hp => ?_)).mono ?_
    · have h1 := HN.out
      have h2 := G11.out
      have h3 := HCR10.out.lt
      have h4 := CM10.out.lt
      rw [List.mem_cons, List.mem_singleton] at hp
      rcases hp with rfl | rfl
      · exact ⟨by dsimp only; omega, by dsimp only; omega, _, _, HCR11.out, by have := HSZ.out; simp; omega⟩
      · exact ⟨by dsimp only; omega, by dsimp only; omega, _, _, CM11.out, by show (0 : Nat) + 3 < 6; decide⟩
    rintro e w12 ⟨rfl, hch⟩
    have T12 := Lib.hid hch.turn
    have HBX12 := Lib.hid (show Cs w12 g4 31 (trC (.slice (some ⟨g, 0, none⟩) t.nodes.length c) { t with lastGen := t.lastGen + 1, count := t.count + 1 } ss).toArray from hch.box)
    have HCR12 := Lib.hid (show Cs w12 g 34 (((cur.setIfInBounds (i * 6 + 5) v9)).setIfInBounds (i * 6 + 3) (.int .u64 ((stampT t : Nat) : Int))) by have h1 := hch.blk g _ _ HN.out.2.2.2.2.2.2.1 HCR11.out; rw [stamp_two (by have := HN.out; omega)] at h1; exact h1)
    have CM12 := Lib.hid (show Cs w12 gm 34 (ndC (newN t dir) (.slice none 0 0) (.slice none 0 0)).toArray by
      have h1 := hch.blk gm _ _ (by have := HN.out; omega) CM11.out
      rw [stamp_new (by have := HN.out; omega)] at h1
      unfold newN
      rw [HFR.out]
      exact h1)
    clear hch
    have TT := Lib.hid (show Turn w10 w12 (fun q => q = g4 ∨ q = g ∨ q = gm) from (Turn.of_below B11.out _).trans (T12.out.mono fun q _ hq => by rcases hq with hq | ⟨p, hp, hq⟩; exact .inl hq; rw [List.mem_cons, List.mem_singleton] at hp; rcases hp with rfl | rfl; exact .inr (.inl hq); exact .inr (.inr hq)) fun _ _ h => h)
    have hst : stampT t < 18446744073709551616 := by unfold stampT; have := HBG.out.2.1; omega
    have NX12 := Lib.hid (NxB.stamp NX10.out HCR10.out (i := i) (by rw [List.length_set]; exact hi') hst (G := fun q => q = g4 ∨ q = g ∨ q = gm) HBX12.out HCR12.out TT.out (fun k hk => by
      have hn := HN.out
      rcases hk with hk | hk | hk
      · exact .inl hk
      · exact .inr (.inl hk)
      · refine .inr (.inr ⟨fun p hp hpk => ?_, fun hSk => by have := NX8.out.topS k hSk; omega⟩)
        rcases List.mem_or_eq_of_mem_set hp with hp | rfl
        · have := NX8.out.top p hp k hpk; omega
        · rcases hpk.1 with h | h
          · have := NX8.out.top _ (List.getElem_mem hi') k h; omega
          · omega) (by show t.count + 1 < 4294967296; omega))
    have C3b := Lib.hid (C39.out.turn TT.out (by have := K3.out; have := HN.out; omega))
    have C9b := Lib.hid (C99.out.turn TT.out (by have := K9.out; have := HN.out; omega))
    have B12 := Lib.hid (show Below w.heap.size w w12 from B10.out.trans (Turn.below TT.out B10.out.size fun q e => by have := HN.out; have := B3.out.size; omega))
    obtain ⟨l2, hl2⟩ : ∃ l2, l2 = (t.nodes.set i { ls[i].1 with names := setE ls[i].1.names nm (at1 + 1) }).set i (chgN (stampT t) ((ls.set i (({ ls[i].1 with names := setE ls[i].1.names nm (at1 + 1) } : Nd), fun k => (ls[i].2 k ∨ wA.heap.size ≤ k) ∧ k < w10.heap.size))[i]'(by rw [List.length_set]; exact hi')).1) := ⟨_, rfl⟩
    have HEQ := Lib.hid (show l2 = updN t.nodes h0.1 fun m => { m with chg := stampT t, names := withE m.names (nm, freeI t.nodes) } by
      have e1 := set_updN HM.out.rise hi fun m => { m with chg := stampT t, names := withE m.names (nm, freeI t.nodes) }
      have e2 : setE ls[i].1.names nm (at1 + 1) = withE t.nodes[i].names (nm, freeI t.nodes) := by rw [HIS.out, setE_free (by rw [HDI.out]; exact HFRE.out), HFR.out]
      rw [hl2, e2, show h0.1 = t.nodes[i].ino from (by rw [HDI.out, HIN.out]), ← e1, List.getElem_set_self, List.set_set, HIS.out]
      rfl)
    have HL2 := Lib.hid (show l2.length = t.nodes.length by rw [HEQ.out, updN_len])
    have HJ2 := Lib.hid (show ∀ j (hj2 : j < l2.length) (hj : j < t.nodes.length), l2[j].ino = t.nodes[j].ino from fun j hj2 hj => inos_at (show inosL l2 = inosL t.nodes by rw [HEQ.out]; exact updN_inos _ (by intro m; rfl) _ _) hj2 hj)
    rw [← hl2] at NX12
    obtain ⟨ls2, hls2⟩ : ∃ ls2, ls2 = (ls.set i (({ ls[i].1 with names := setE ls[i].1.names nm (at1 + 1) } : Nd), fun k => (ls[i].2 k ∨ wA.heap.size ≤ k) ∧ k < w10.heap.size)).set i (chgN (stampT t) ((ls.set i (({ ls[i].1 with names := setE ls[i].1.names nm (at1 + 1) } : Nd), fun k => (ls[i].2 k ∨ wA.heap.size ≤ k) ∧ k < w10.heap.size))[i]'(by rw [List.length_set]; exact hi')).1, ((ls.set i (({ ls[i].1 with names := setE ls[i].1.names nm (at1 + 1) } : Nd), fun k => (ls[i].2 k ∨ wA.heap.size ≤ k) ∧ k < w10.heap.size))[i]'(by rw [List.length_set]; exact hi')).2) := ⟨_, rfl⟩
    rw [← hls2] at NX12
    clear hl2 hls2
    have hll2 : ls2.length = t.nodes.length := by rw [NX12.out.rd.2]; show l2.length = _; rw [HL2.out]
    have HLL2 := Lib.hid hll2
    have q0 : w12.cell? ⟨g4, 0, none⟩ = some (.slice (some ⟨g, 0, none⟩) t.nodes.length c) := HBX12.out.cell 0 rfl
    have HNN := Lib.hid (show (newN t dir).ino < 4294967296 ∧ (newN t dir).gen < 4294967296 ∧ (newN t dir).chg < 18446744073709551616 from ⟨by show freeI t.nodes < _; rw [HFR.out]; have := HM.out.many; have := HAT.out; omega, by show t.lastGen + 1 < _; omega, hst⟩)
    clear hll2
    go_wp2_with (first
      | ((with_reducible show wpList _ _ _ _ _ w12); refine wpList_loadS rfl 34 _ rfl gm rfl (ndC (newN t dir) (.slice none 0 0) (.slice none 0 0)) CM12.out _ Tryd.underlying34 rfl infoNode ?_; go_frame)
      | ((with_reducible show wpList _ _ _ _ _ w12); refine wpList_buildNd rfl _ rfl (newN t dir) (.slice none 0 0) (.slice none 0 0) rfl ?_; intro vb w13 hk1 hb1 hg1; go_frame; have CV := Lib.hid hk1; have B13 := Lib.hid hb1; have GV := Lib.hid hg1; clear hk1 hb1 hg1 q0)
      | fail)
    refine (Insert_nd w3.heap.size (fun k => w3.heap.size ≤ k ∧ k ≠ g4) (.slice (some ⟨g, 0, none⟩) t.nodes.length c) at1 ls2 vb (ndC (newN t dir) (.slice none 0 0) (.slice none 0 0)) (newN t dir, fun _ => False) w13 (NX12.out.below B13.out).o.own (by rw [HLL2.out]; exact HAT.out) (fun e => by have e2 : g = vb := Option.some.inj e; have := GV.out; have := HCR12.out.lt; omega) CV.out ⟨.slice none 0 0, .slice none 0 0, rfl, BsV.nil _ _, OwnX.nil _ _ _, HNN.out⟩ (fun k hk => ⟨by have := B13.out.size; have := NX12.out.o.box.lt; have := HN.out; omega, by have := B13.out.size; have := NX12.out.o.box.lt; omega⟩) (by have := B13.out.size; have := NX12.out.o.box.lt; have := HN.out; omega) (by rw [HLL2.out]; have := HM.out.many; omega)).mono ?_
    rintro e w14 ⟨v14, rfl, ho14, ht14⟩
    have HO14 := Lib.hid ho14
    have T14 := Lib.hid (show Turn w13 w14 (fun k => k = g) from ht14.mono fun q _ e => by injection e with e; exact e.symm)
    have HV14 := Lib.hid ho14.one
    have HBX14 := Lib.hid ((HBX12.out.below B13.out HBX12.out.lt).turn T14.out (fun e => by have := HN.out; omega))
    have CM14 := Lib.hid ((CM12.out.below B13.out CM12.out.lt).turn T14.out (fun e => by have := HN.out; omega))
    have C3c := Lib.hid ((C3b.out.below B13.out C3b.out.lt).turn T14.out (fun e => by have := HN.out; have := K3.out; omega))
    have C9c := Lib.hid ((C9b.out.below B13.out C9b.out.lt).turn T14.out (fun e => by have := HN.out; have := K9.out; omega))
    have B14 := Lib.hid (show Below w.heap.size w w14 from (below_chain B12.out B13.out).trans (Turn.below T14.out (below_chain B12.out B13.out).size fun q e => by have := HN.out; have := B3.out.size; omega))
    clear ho14 ht14
    go_wp2_with (first
      | ((with_reducible show wpList _ _ _ _ _ w14); refine wpList_store1 rfl 23 _ _ rfl g4 0 rfl v14 rfl HV14.out infoNs1 _ _ HBX14.out (by have := HTL.out; unfold trC; simp) ?_; intro w15 hk2 ht2; go_frame; have HB15 := Lib.hid (show Cs w15 g4 31 (trC v14 { t with lastGen := t.lastGen + 1, count := t.count + 1 } ss).toArray from by simpa [trC] using hk2); have T15 := Lib.hid ht2; clear hk2 ht2)
      | fail)
    have HO15 := Lib.hid (HO14.out.turn T15.out (fun k hk e => hk.2 e))
    have CM15 := Lib.hid (CM14.out.turn T15.out (fun e => by have := HN.out; omega))
    have C3d := Lib.hid (C3c.out.turn T15.out (fun e => by have := HN.out; have := K3.out; omega))
    have C9d := Lib.hid (C9c.out.turn T15.out (fun e => by have := HN.out; have := K9.out; omega))
    have B15 := Lib.hid (show Below w.heap.size w w15 from B14.out.trans (Turn.below T15.out B14.out.size fun q e => by have := HN.out; have := B3.out.size; omega))
    have HT2 := Lib.hid (show TrAt w15 (w3.heap.size ≤ ·) (trC v14 { t with lastGen := t.lastGen + 1, count := t.count + 1 } ss) (madeT t h0.1 nm dir) by
      have hl2 : l2.length = t.nodes.length := HL2.out
      refine NxB.last (t' := madeT t h0.1 nm dir) NX12.out HO15.out (fun k hk => hk.1) (G := fun q => q = g4 ∨ q = g) (((Turn.of_below B13.out _).trans (T14.out.mono fun _ _ h => Or.inr h) fun _ _ h => h).trans (T15.out.mono fun _ _ h => Or.inl h) fun _ _ h => h) (fun k hk hgk => ?_) ?_ rfl ⟨by show t.lastGen + 1 < 4294967296; omega, HBG.out.2.1, by show t.count + 1 < 4294967296; omega⟩
      · obtain ⟨k1, k2, k3, k4⟩ := NX12.out.o.far k hk
        rcases hgk with rfl | rfl
        · exact k2 rfl
        · exact k3 rfl
      · rw [List.map_append, List.map_cons, List.map_take, List.map_drop, NX12.out.o.nds]
        show l2.take at1 ++ newN t dir :: l2.drop at1 = insN (updN t.nodes h0.1 fun m => { m with chg := stampT t, names := withE m.names (nm, freeI t.nodes) }) (newN t dir)
        rw [← HEQ.out]
        have hf : (newN t dir).ino = at1 + 1 := HFR.out
        refine ins_insN (fun j hj hlt => ?_) fun j hj hle => ?_
        · rw [hf, HJ2.out j hj (by omega), HGP.out j (by omega) hlt]; omega
        · rw [hf, HJ2.out j hj (by omega)]
          have := ino_ge HM.out j (by omega)
          omega)
    have HTL2 := Lib.hid HT2.out.len
    have HTI2 := Lib.hid HT2.out.one
    go_wp2_with fail
    refine wp_region_V [3] (fun u => Cs u g4 31 (trC v14 { t with lastGen := t.lastGen + 1, count := t.count + 1 } ss).toArray ∧ Cs u gm 34 (ndC (newN t dir) (.slice none 0 0) (.slice none 0 0)).toArray ∧ Cs u g9 34 nodeZ.toArray ∧ (∃ xs : List Value, Cs u g3 31 xs.toArray ∧ xs.length = 16) ∧ Turn w15 u (fun k => k = g3)) hmix (⟨HB15.out.drew, CM15.out.drew, C9d.out.drew, ⟨treeZ, C3d.out.drew, rfl⟩, Turn.of_below (Below.refl _ _).drew _⟩) ?_
    change wpAnyV _ _ _ _ _ _ _ _ _
    refine wpAnyV_take (i := 0) (v := .agg (trC v14 { t with lastGen := t.lastGen + 1, count := t.count + 1 } ss).toArray) 12 (kept_and (kept_cs _ _ _) (kept_and (kept_cs _ _ _) (kept_and (kept_cs _ _ _) (kept_and (fun a b h hb => by obtain ⟨xs, h1, h2⟩ := h; exact ⟨xs, h1.below hb h1.lt, h2⟩) (kept_turn _ _))))) rfl (by kernel_rfl) (by kernel_rfl) (fun _ _ _ h => h) (fun _ h => h) (DoesV.loadT (by rfl) 31 _ rfl g4 0 rfl (trC v14 { t with lastGen := t.lastGen + 1, count := t.count + 1 } ss) (fun w9 hS => At.whole hS.1) _ Tryd.underlying31 rfl (by rw [HTL2.out]; exact infoTree)) ?_
    try simp only [List.getElem_toArray, List.getElem_cons_succ, List.getElem_cons_zero, Act.put, List.setIfInBounds_toArray, List.set_cons_succ, List.set_cons_zero]
    refine wpAnyV_take (i := 1) (v := .agg (ndC (newN t dir) (.slice none 0 0) (.slice none 0 0)).toArray) 12 (kept_and (kept_cs _ _ _) (kept_and (kept_cs _ _ _) (kept_and (kept_cs _ _ _) (kept_and (fun a b h hb => by obtain ⟨xs, h1, h2⟩ := h; exact ⟨xs, h1.below hb h1.lt, h2⟩) (kept_turn _ _))))) rfl (by kernel_rfl) (by kernel_rfl) (fun _ _ _ h => h) (fun _ h => h) (DoesV.loadT (by rfl) 34 _ rfl gm 0 rfl (ndC (newN t dir) (.slice none 0 0) (.slice none 0 0)) (fun w9 hS => At.whole hS.2.1) _ Tryd.underlying34 rfl infoNode) ?_
    try simp only [List.getElem_toArray, List.getElem_cons_succ, List.getElem_cons_zero, Act.put, List.setIfInBounds_toArray, List.set_cons_succ, List.set_cons_zero]
    refine wpAnyV_only (i := 2) rfl (by kernel_rfl) rfl (fun u hS => ?_)
    try simp only [List.getElem_toArray, List.getElem_cons_succ, List.getElem_cons_zero, Act.put, List.setIfInBounds_toArray, List.set_cons_succ, List.set_cons_zero]
    obtain ⟨xs, hx1, hx2⟩ := hS.2.2.2.1
    refine wp_storeW 31 _ _ rfl g3 rfl (trC v14 { t with lastGen := t.lastGen + 1, count := t.count + 1 } ss) xs rfl hx1 (by rw [HTL2.out, hx2]) HTI2.out (by rw [HTL2.out]; exact infoTree) fun u' hk ht => ⟨fun z => (Cs z g4 31 (trC v14 { t with lastGen := t.lastGen + 1, count := t.count + 1 } ss).toArray ∧ Cs z gm 34 (ndC (newN t dir) (.slice none 0 0) (.slice none 0 0)).toArray ∧ Cs z g9 34 nodeZ.toArray ∧ (∃ xs : List Value, Cs z g3 31 xs.toArray ∧ xs.length = 16) ∧ Turn w15 z (fun k => k = g3)) ∧ Cs z g3 31 (trC v14 { t with lastGen := t.lastGen + 1, count := t.count + 1 } ss).toArray, ⟨⟨hS.1.turn ht (fun e => by have := K3.out; have := HN.out; omega), hS.2.1.turn ht (fun e => by have := K3.out; have := HN.out; omega), hS.2.2.1.turn ht (fun e => N39.out e.symm), ⟨_, hk, HTL2.out⟩, hS.2.2.2.2.trans ht fun _ _ h => h⟩, hk⟩, kept_and (kept_and (kept_cs _ _ _) (kept_and (kept_cs _ _ _) (kept_and (kept_cs _ _ _) (kept_and (fun a b h hb => by obtain ⟨xs, h1, h2⟩ := h; exact ⟨xs, h1.below hb h1.lt, h2⟩) (kept_turn _ _))))) (kept_cs _ _ _), fun _ _ h => h.1, ?_⟩
    clear hS hx1 hx2
    try simp only [List.getElem_toArray, List.getElem_cons_succ, List.getElem_cons_zero, Act.put, List.setIfInBounds_toArray, List.set_cons_succ, List.set_cons_zero]
    refine wpAnyV_only (i := 3) rfl (by kernel_rfl) rfl (fun u hS => ?_)
    try simp only [List.getElem_toArray, List.getElem_cons_succ, List.getElem_cons_zero, Act.put, List.setIfInBounds_toArray, List.set_cons_succ, List.set_cons_zero]
    refine wp_storeW 34 _ _ rfl g9 rfl (ndC (newN t dir) (.slice none 0 0) (.slice none 0 0)) nodeZ rfl hS.1.2.2.1 rfl (by intro q hq; simp [ndC] at hq; rcases hq with rfl | rfl | rfl | rfl | rfl | rfl <;> rfl) infoNode fun u' hk ht => ⟨fun z => Cs z g3 31 (trC v14 { t with lastGen := t.lastGen + 1, count := t.count + 1 } ss).toArray ∧ Cs z g9 34 (ndC (newN t dir) (.slice none 0 0) (.slice none 0 0)).toArray ∧ Turn w15 z (fun k => k = g3 ∨ k = g9), ⟨hS.2.turn ht (fun e => N39.out e), hk, (hS.1.2.2.2.2.mono fun _ _ h => Or.inl h).trans ht fun _ _ h => Or.inr h⟩, kept_and (kept_cs _ _ _) (kept_and (kept_cs _ _ _) (kept_turn _ _)), fun h => absurd (by decide : (3 : Nat) ∈ [3]) h, ?_⟩
    clear hS
    try simp only [List.getElem_toArray, List.getElem_cons_succ, List.getElem_cons_zero, Act.put, List.setIfInBounds_toArray, List.set_cons_succ, List.set_cons_zero]
    refine wpAnyV_only (i := 4) rfl (by kernel_rfl) rfl (fun u hS => wp_of_run2 (v := .int .u8 0) (by go_simp) ⟨_, hS, kept_and (kept_cs _ _ _) (kept_and (kept_cs _ _ _) (kept_turn _ _)), fun _ _ h => h, ?_⟩)
    try simp only [List.getElem_toArray, List.getElem_cons_succ, List.getElem_cons_zero, Act.put, List.setIfInBounds_toArray, List.set_cons_succ, List.set_cons_zero]
    refine wpAnyV_done (by kernel_rfl) (fun wz hz => ?_) _
    have C3z := Lib.hid hz.1
    have C9z := Lib.hid hz.2.1
    have Tz := Lib.hid hz.2.2
    clear hz
    go_wp2_with fail
    refine bodyPost_ret (results_two_tmp (P := Tryd.prog) (p := 8) (q := 9) (ty := 31) (ty' := 34) rfl _ _ g3 (trC v14 { t with lastGen := t.lastGen + 1, count := t.count + 1 } ss) rfl (At.whole C3z.out) g9 (ndC (newN t dir) (.slice none 0 0) (.slice none 0 0)) rfl (At.whole C9z.out) _ Tryd.underlying31 rfl (by rw [HTL2.out]; exact infoTree) _ Tryd.underlying34 rfl infoNode) rfl ?_
    refine ⟨_, _, by rw [HS0.out]; rfl, ?_, ?_, B15.out.trans (Turn.below Tz.out B15.out.size fun q e => by have := G3.out; have := G9.out; omega)⟩
    · rw [HL1.out]
      exact (HT2.out.turn Tz.out fun k hk e => by have := K3.out; have := K9.out; omega).mono fun k _ hk => Or.inr (by have := B3.out.size; omega)
    · rw [HLn.out]
      exact ⟨.slice none 0 0, .slice none 0 0, rfl, BsV.nil _ _, LsV.nil _ _, HNN.out⟩
  · have e0 : ((L.2.2 : Int) != 0) = true := by simp; omega
    have HZ := Lib.hid (HLZ.out hs)
    go_wp2_with (first
      | ((with_reducible show wpList _ _ _ _ _ w8); refine wpList_loadS rfl 31 _ rfl g4 rfl (trC (.slice (some ⟨g, 0, none⟩) t.nodes.length c) t ss) NX8.out.o.box _ Tryd.underlying31 rfl (by rw [HTL.out]; exact infoTree) ?_; go_frame)
      | ((with_reducible show wpList _ _ _ _ _ w8); refine wpList_storeS rfl 31 _ _ rfl g3 rfl (trC (.slice (some ⟨g, 0, none⟩) t.nodes.length c) t ss) treeZ rfl C38.out (by rw [HTL.out]; rfl) HTI.out (by rw [HTL.out]; exact infoTree) ?_; intro w9 hk2 ht2; go_frame; have C39 := Lib.hid hk2; have T9 := Lib.hid ht2; have C99 := Lib.hid (C98.out.turn ht2 (fun e => N39.out e.symm)); clear hk2 ht2)
      | ((with_reducible show wpList _ _ _ _ _ w9); refine wpList_storeS rfl 34 _ _ rfl g9 rfl nodeZ nodeZ rfl C99.out rfl (by intro q hq; simp [nodeZ] at hq; rcases hq with rfl | rfl | rfl | rfl | rfl | rfl <;> rfl) infoNode ?_; intro w10 hk2 ht2; go_frame; have C9a := Lib.hid hk2; have Ta := Lib.hid ht2; have C3a := Lib.hid (C39.out.turn ht2 (fun e => N39.out e)); clear hk2 ht2)
      | fail)
    refine bodyPost_ret (results_two_tmp (P := Tryd.prog) (p := 8) (q := 9) (ty := 31) (ty' := 34) rfl _ _ g3 (trC (.slice (some ⟨g, 0, none⟩) t.nodes.length c) t ss) rfl (At.whole C3a.out) g9 nodeZ rfl (At.whole C9a.out) _ Tryd.underlying31 rfl (by rw [HTL.out]; exact infoTree) _ Tryd.underlying34 rfl infoNode) rfl ?_
    have TT := (T9.out.mono (G := fun k => k = g3 ∨ k = g9) fun _ _ h => Or.inl h).trans (Ta.out.mono fun _ _ h => Or.inr h) fun _ _ h => h
    refine ⟨_, _, by rfl, ?_, ?_, B8.out.trans (Turn.below TT B8.out.size fun q e => by have := G3.out; have := G9.out; omega)⟩
    · rw [HZ.out.1]
      exact (NX8.out.o.at.turn TT fun k hk e => by have := K3.out; have := K9.out; omega).mono fun k _ hk => Or.inr (by have := B3.out.size; omega)
    · rw [HZ.out.2]
      exact nd0_at _ _

end Go.Proofs.YtenpmbfncnepgaaDoor
