/- The program: Write. -/
import Derived.Test.YtenpmbfncnepgaaDoorTzPK
namespace Go.Proofs.YtenpmbfncnepgaaDoor
open Go.RowKit Go.Shelf
set_option linter.unusedVariables false
set_option maxRecDepth 100000
set_option linter.unusedSimpArgs false

set_option maxHeartbeats 4000000 in
theorem isPiece2_v (off n c : Nat) (A : Option Addr) (w : World) :
    Calls Tryd.prog 28 #[.int .u32 (off : Int), .slice A n c] w fun e w' => AskRet w (True) (stOf ((decide (0 < n) && decide (n ≤ 64) && decide (off + n ≤ 4096))) 8) e w' := by
  go_enter Tryd.func28, Tryd.ntmps28
  go_wp2_with (first
    | ((with_reducible show wpList _ _ _ _ _ w); refine wpList_boxV rfl 24 _ rfl (.int .u32 (off : Int)) rfl rfl ?_; intro g0 w1 hk1 hb1 hg1; go_frame; have C0_1 := Lib.hid hk1; have B1 := Lib.hid hb1; clear hk1 hb1 hg1)
    | ((with_reducible show wpList _ _ _ _ _ w1); refine wpList_boxV rfl 26 _ rfl (.slice A n c) rfl rfl ?_; intro g1 w2 hk1 hb1 hg1; go_frame; have C1_2 := Lib.hid hk1; have C0_2 := Lib.hid (C0_1.out.below hb1 C0_1.out.lt); have B2 := Lib.hid (below_chain B1.out hb1); clear hk1 hb1 hg1)
    | fail)
  refine (unless_v 8 54 #[.pointer (some ⟨g1, 0, none⟩), .pointer (some ⟨g0, 0, none⟩)] w2).mono ?_
  rintro e wz ⟨v, rfl, h1, hv, hb⟩
  have HV := Lib.hid (show (True) → AskV wz v (stOf ((decide (0 < n) && decide (n ≤ 64) && decide (off + n ≤ 4096))) 8) by
    intro hK
    refine hv ((decide (0 < n) && decide (n ≤ 64) && decide (off + n ≤ 4096))) (ask_of (enters_of Tryd.func54 (by kernel_rfl) rfl) ?_)
    intro W hW
    have BW := Lib.hid (below_chain B2.out (below_chain hb hW))
    have CW0 := Lib.hid (C0_2.out.below (below_chain hb hW) C0_2.out.lt)
    have CW1 := Lib.hid (C1_2.out.below (below_chain hb hW) C1_2.out.lt)
    clear hW hv hb h1
    have q0 : W.cell? ⟨g0, 0, none⟩ = some (.int .u32 (off : Int)) := CW0.out.cell 0 rfl
    have q1 : W.cell? ⟨g1, 0, none⟩ = some (.slice A n c) := CW1.out.cell 0 rfl
    by_cases h1 : 0 < n
    · have i1 : (0 : Int) < n := by omega
      by_cases h2 : n ≤ 64
      · have i2 : (n : Int) ≤ 64 := by omega
        have i5 : IntKind.u32.wrap (n : Int) = n := IntWalk.u32_in _ (by omega)
        have i6 : IntKind.u32.wrap (4096 - (n : Int)) = 4096 - n := IntWalk.u32_in _ (by omega)
        by_cases h3 : off + n ≤ 4096
        · have i3 : (off : Int) ≤ 4096 - n := by omega
          go_enter Tryd.func54, Tryd.ntmps54
          go_wp2_with fail
          go_ret
          exact ⟨by first | rfl | simp [h1, h2, h3], Below.refl _ _⟩
        · have i3 : ¬ (off : Int) ≤ 4096 - n := by omega
          go_enter Tryd.func54, Tryd.ntmps54
          go_wp2_with fail
          go_ret
          exact ⟨by first | rfl | simp [h1, h2, h3], Below.refl _ _⟩
      · have i2 : ¬ (n : Int) ≤ 64 := by omega
        go_enter Tryd.func54, Tryd.ntmps54
        go_wp2_with fail
        go_ret
        exact ⟨by first | rfl | simp [h1, h2], Below.refl _ _⟩
    · have i1 : ¬ (0 : Int) < n := by omega
      go_enter Tryd.func54, Tryd.ntmps54
      go_wp2_with fail
      go_ret
      exact ⟨by first | rfl | simp [h1], Below.refl _ _⟩
    )
  have BZ := Lib.hid (below_chain B2.out hb)
  have H1 := Lib.hid h1
  clear hv hb h1
  go_wp2_with fail
  go_ret
  exact ⟨v, rfl, H1.out, HV.out, BZ.out⟩
theorem put_is (l d : List UInt8) (off : Nat) : layB (resB l (max l.length (off + d.length))) off d = putB l off d := by
  have e : resB l (max l.length (off + d.length)) = padB l (off + d.length) := by
    unfold resB
    rw [List.take_of_length_le]
    · unfold padB
      congr 2
      omega
    · unfold padB
      rw [List.length_append, List.length_replicate]
      omega
  unfold layB putB
  rw [e]
theorem write_is {t : Tr} (hm : MayT t) (h : Nat × Nat) (off : Nat) (b : List UInt8) : (writeT t h off b).2 = orS 0 (orS (stOf (findT t.nodes h).isSome 1) (orS (kindS (findT t.nodes h) false) (orS (stOf (decide (0 < b.length) && decide (b.length ≤ 64) && decide (off + b.length ≤ 4096)) 8) (orS (stOf (decide (t.count < 2147483648)) 7) 0)))) ∧
    ((writeT t h off b).2 ≠ 0 → (writeT t h off b).1 = t) ∧ ((writeT t h off b).2 = 0 → 0 < b.length ∧ b.length ≤ 64 ∧ off + b.length ≤ 4096 ∧ t.count < 2147483648 ∧ (writeT t h off b).1 = dataT t h.1 (fun l => putB l off b) ∧ ∃ d, findT t.nodes h = some d) := by
  unfold writeT
  rw [if_pos hm]
  cases hd : findT t.nodes h with
  | none => simp [orS, stOf]
  | some d =>
    cases hdir : d.dir
    · by_cases h1 : b = [] ∨ 64 < b.length ∨ 4096 < off + b.length
      · have h2 : (decide (0 < b.length) && decide (b.length ≤ 64) && decide (off + b.length ≤ 4096)) = false := by
          rcases h1 with rfl | h1 | h1
          · rfl
          · rw [show decide (b.length ≤ 64) = false from decide_eq_false (by omega)]; simp
          · rw [show decide (off + b.length ≤ 4096) = false from decide_eq_false (by omega)]; simp
        rw [h2]
        simp [orS, stOf, kindS, hdir, h1]
      · have h3 : b ≠ [] ∧ b.length ≤ 64 ∧ off + b.length ≤ 4096 := by
          refine ⟨fun e => h1 (.inl e), ?_, ?_⟩
          · have := fun k => h1 (.inr (.inl k)); omega
          · have := fun k => h1 (.inr (.inr k)); omega
        have h4 : 0 < b.length := List.length_pos_iff.2 h3.1
        have h2 : (decide (0 < b.length) && decide (b.length ≤ 64) && decide (off + b.length ≤ 4096)) = true := by
          rw [decide_eq_true h4, decide_eq_true h3.2.1, decide_eq_true h3.2.2]; rfl
        rw [h2]
        by_cases h5 : 2147483648 ≤ t.count
        · simp [orS, stOf, kindS, hdir, h1, h5]
        · simp [orS, stOf, kindS, hdir, h1, h5]
          exact ⟨h4, h3.2.1, h3.2.2, by omega⟩
    · simp [orS, stOf, kindS, hdir]
set_option maxHeartbeats 16000000 in
theorem Write_v (t : Tr) (cs : List Value) (h0 : Nat × Nat) (off : Nat) (dv0 : Value) (b : List UInt8) (F G0 : Nat → Prop) (w : World) (hT : Tabs w) (h : TrAt w F cs t) (ho32 : off < 4294967296) (hbs0 : BsV w G0 dv0 b) (hm : MayT t) :
    Calls Tryd.prog 7 #[.agg cs.toArray, .agg (hdC h0).toArray, .int .u32 (off : Int), dv0] w fun e w' => GivesT F (writeT t h0 off b) w e w' := by
  have hmix : Tryd.prog.follows .mixedOrders = true := by kernel_rfl
  obtain ⟨Ab, cb, rfl, hrb, -, hcb, -⟩ := hbs0
  have HRB := Lib.hid hrb.rd
  have HCB := Lib.hid hcb
  clear hrb hcb
  obtain ⟨LS, LN, L0⟩ := write_is hm h0 off b
  have HLS := Lib.hid LS
  have HLZ := Lib.hid LN
  have HL0 := Lib.hid L0
  have hs256 : (writeT t h0 off b).2 < 256 := by
    rw [LS]
    have := kind_lt (findT t.nodes h0) false
    unfold orS stOf
    repeat (first | omega | split)
  have HLT := Lib.hid hs256
  clear LS LN L0 hs256
  obtain ⟨L, hL⟩ : ∃ L, L = writeT t h0 off b := ⟨_, rfl⟩
  rw [← hL] at HLS HLZ HL0 HLT ⊢
  clear hL
  have HTR := Lib.hid (show TrAt w (fun k => F k ∧ k < w.heap.size) cs t from h.mono fun k hk hF => ⟨hF, hk⟩)
  have HSM := Lib.hid (small_of hm h)
  have HT := Lib.hid hT
  have HM := Lib.hid hm
  have HLN := Lib.hid h.len
  obtain ⟨hr0, -⟩ := root_first hm
  have HR0 := Lib.hid hr0
  clear hT hm h hr0
  go_enter Tryd.func7, Tryd.ntmps7
  go_wp2_with (first
    | ((with_reducible show wpList _ _ _ _ _ w); refine wpList_boxS rfl 31 _ rfl cs rfl ?_; intro g1 w1 hk1 hb1 hg1; go_frame; have C1 := Lib.hid hk1; have B1 := Lib.hid hb1; clear hk1 hb1 hg1)
    | ((with_reducible show wpList _ _ _ _ _ w1); refine wpList_boxS rfl 39 _ rfl (hdC h0) rfl ?_; intro g2 w2 hk1 hb1 hg1; go_frame; have C2 := Lib.hid hk1; have C12 := Lib.hid (C1.out.below hb1 C1.out.lt); have B2 := Lib.hid (below_chain B1.out hb1); clear hk1 hb1 hg1)
    | ((with_reducible show wpList _ _ _ _ _ w2); refine wpList_allocS rfl 31 rfl treeZ treeZero ?_; intro g3 w3 hk1 hb1 hg1; go_frame; have C3 := Lib.hid hk1; have C23 := Lib.hid (C2.out.below hb1 C2.out.lt); have C13 := Lib.hid (C12.out.below hb1 C12.out.lt); have B3 := Lib.hid (below_chain B2.out hb1); have G3 := Lib.hid (Nat.le_trans B2.out.size hg1); clear hk1 hb1 hg1)
    | ((with_reducible show wpList _ _ _ _ _ w3); refine wpList_loadS rfl 31 _ rfl g1 rfl cs C13.out _ Tryd.underlying31 rfl (by rw [HLN.out]; exact infoTree) ?_; go_frame)
    | fail)
  refine (Copy_v t cs (fun k => F k ∧ k < w.heap.size) w3 (HTR.out.below B3.out) HSM.out fun k hk => Nat.lt_of_lt_of_le hk.2 B3.out.size).mono ?_
  rintro e w4 ⟨nv, ss, ls, S, rfl, hto, hb⟩
  have HTO := Lib.hid hto
  have B34 := Lib.hid hb
  have B4 := Lib.hid (below_chain B3.out hb)
  have C24 := Lib.hid (C23.out.below hb C23.out.lt)
  have C34 := Lib.hid (C3.out.below hb C3.out.lt)
  have K3 := Lib.hid C3.out.lt
  obtain ⟨g, c, hnv, hlo⟩ : ∃ g c, nv = .slice (some ⟨g, 0, none⟩) t.nodes.length c ∧ w3.heap.size ≤ g := by
    have hll : ls.length = t.nodes.length := by rw [← hto.nds, List.length_map]
    obtain ⟨g, c, e, h1, -⟩ := hto.own.shape (fun e => by rw [e] at hll; have := HR0.out; simp at hll; omega)
    exact ⟨g, c, by rw [e, hll], h1⟩
  have HTL := Lib.hid (show (trC nv t ss).length = 16 by unfold trC; simp only [List.length_cons, hto.len.2])
  have HTI := Lib.hid (show ∀ v ∈ trC nv t ss, v.oneCell' = true from (TrO.at1 hto).one)
  subst hnv
  clear hto hb hlo
  go_wp2_with (first
    | ((with_reducible show wpList _ _ _ _ _ w4); refine wpList_allocS rfl 31 rfl treeZ treeZero ?_; intro g4 w5 hk1 hb1 hg1; go_frame; have C45 := Lib.hid hk1; have B45 := Lib.hid hb1; have C25 := Lib.hid (C24.out.below hb1 C24.out.lt); have C35 := Lib.hid (C34.out.below hb1 C34.out.lt); have B5 := Lib.hid (below_chain B4.out hb1); have G4 := Lib.hid hg1; have K24 := Lib.hid C24.out.lt; have K34 := Lib.hid C34.out.lt; clear hk1 hb1 hg1)
    | ((with_reducible show wpList _ _ _ _ _ w5); refine wpList_storeS rfl 31 _ _ rfl g4 rfl (trC (.slice (some ⟨g, 0, none⟩) t.nodes.length c) t ss) treeZ rfl C45.out (by rw [HTL.out]; rfl) HTI.out (by rw [HTL.out]; exact infoTree) ?_; intro w6 hk2 ht2; go_frame; have hb46 : Below w4.heap.size w4 w6 := below_turn B45.out ht2 B45.out.size G4.out; have NX := Lib.hid (TrO.nx HTO.out hb46 hk2 G4.out (Nat.le_trans B34.out.size G4.out)); have B6 := Lib.hid (below_chain B4.out hb46); have C26 := Lib.hid (C24.out.below hb46 C24.out.lt); have C36 := Lib.hid (C34.out.below hb46 C34.out.lt); have q0 : w6.cell? ⟨g4, 0, none⟩ = some (.slice (some ⟨g, 0, none⟩) t.nodes.length c) := hk2.cell 0 rfl; clear hk2 ht2 hb46)
    | ((with_reducible show wpList _ _ _ _ _ w6); refine wpList_loadS rfl 39 _ rfl g2 rfl (hdC h0) C26.out _ Tryd.underlying39 rfl infoHandle13 ?_; go_frame)
    | fail)
  refine (nodeOf_v t.nodes h0 (some ⟨g, 0, none⟩) c (w3.heap.size ≤ ·) w6 (by have := HM.out.many; omega) HM.out.rise NX.out.rd.1).mono ?_
  rintro e w7 ⟨⟨vp, rfl, hp⟩, hb⟩
  have HP := Lib.hid hp
  have NX7 := Lib.hid (NX.out.below hb)
  have B7 := Lib.hid (below_chain B6.out hb)
  have C37 := Lib.hid (C36.out.below hb C36.out.lt)
  have K34g := Lib.hid (Nat.lt_of_lt_of_le K34.out G4.out)
  clear hp hb q0
  have HMT := Lib.hid (May_at t _ _ w7 (HT.out.below B7.out) NX7.out.o.at HM.out)
  go_wp2_with fail
  refine wp_region_V [] (fun u => Below w7.heap.size w7 u) hmix ((Below.refl _ _).drew) ?_
  change wpAnyV _ _ _ _ _ _ _ _ _
  refine wpAnyV_take (i := 0) (v := .agg (trC (.slice (some ⟨g, 0, none⟩) t.nodes.length c) t ss).toArray) 12 (kept_below _) rfl (by kernel_rfl) (by kernel_rfl) (fun _ _ _ h => h) (fun _ h => h) (DoesV.loadT (by rfl) 31 _ rfl g4 0 rfl (trC (.slice (some ⟨g, 0, none⟩) t.nodes.length c) t ss) (fun w9 hS => At.whole (NX7.out.below hS).o.box) _ Tryd.underlying31 rfl (by rw [HTL.out]; exact infoTree)) ?_
  try simp only [List.getElem_toArray, List.getElem_cons_succ, List.getElem_cons_zero, Act.put, List.setIfInBounds_toArray, List.set_cons_succ, List.set_cons_zero]
  refine wpAnyV_take (i := 2) (v := vp) 12 (kept_below _) rfl (by kernel_rfl) (by kernel_rfl) (fun _ _ _ h => h) (fun _ h => h) (DoesV.reads (by rfl) fun w9 hS => by go_simp) ?_
  try simp only [List.getElem_toArray, List.getElem_cons_succ, List.getElem_cons_zero, Act.put, List.setIfInBounds_toArray, List.set_cons_succ, List.set_cons_zero]
  refine wpAnyV_take (i := 4) (v := vp) 12 (kept_below _) rfl (by kernel_rfl) (by kernel_rfl) (fun _ _ _ h => h) (fun _ h => h) (DoesV.reads (by rfl) fun w9 hS => by go_simp) ?_
  try simp only [List.getElem_toArray, List.getElem_cons_succ, List.getElem_cons_zero, Act.put, List.setIfInBounds_toArray, List.set_cons_succ, List.set_cons_zero]
  refine wpAnyV_take (i := 6) (v := .int .u32 (off : Int)) 12 (kept_below _) rfl (by kernel_rfl) (by kernel_rfl) (fun _ _ _ h => h) (fun _ h => h) (DoesV.reads (by rfl) fun w9 hS => by go_simp) ?_
  try simp only [List.getElem_toArray, List.getElem_cons_succ, List.getElem_cons_zero, Act.put, List.setIfInBounds_toArray, List.set_cons_succ, List.set_cons_zero]
  refine wpAnyV_take (i := 7) (v := .slice Ab b.length cb) 12 (kept_below _) rfl (by kernel_rfl) (by kernel_rfl) (fun _ _ _ h => h) (fun _ h => h) (DoesV.reads (by rfl) fun w9 hS => by go_simp) ?_
  try simp only [List.getElem_toArray, List.getElem_cons_succ, List.getElem_cons_zero, Act.put, List.setIfInBounds_toArray, List.set_cons_succ, List.set_cons_zero]
  refine wpAnyV_take (i := 9) (v := .agg (trC (.slice (some ⟨g, 0, none⟩) t.nodes.length c) t ss).toArray) 12 (kept_below _) rfl (by kernel_rfl) (by kernel_rfl) (fun _ _ _ h => h) (fun _ h => h) (DoesV.loadT (by rfl) 31 _ rfl g4 0 rfl (trC (.slice (some ⟨g, 0, none⟩) t.nodes.length c) t ss) (fun w9 hS => At.whole (NX7.out.below hS).o.box) _ Tryd.underlying31 rfl (by rw [HTL.out]; exact infoTree)) ?_
  try simp only [List.getElem_toArray, List.getElem_cons_succ, List.getElem_cons_zero, Act.put, List.setIfInBounds_toArray, List.set_cons_succ, List.set_cons_zero]
  refine wpAnyV_only (i := 1) rfl (by kernel_rfl) rfl (fun u hS => wp_of_call (f := 14) (args := #[.agg (trC (.slice (some ⟨g, 0, none⟩) t.nodes.length c) t ss).toArray]) (by go_simp) (mayBe_v _ u HTL.out fun W hW => HMT.out W (below_chain (hS) hW)) fun e u' hu => ?_)
  try simp only [List.getElem_toArray, List.getElem_cons_succ, List.getElem_cons_zero, Act.put, List.setIfInBounds_toArray, List.set_cons_succ, List.set_cons_zero]
  obtain ⟨va0, he, kva0, hA, hb⟩ := hu
  have Ova0 := Lib.hid kva0
  have Qva0 : (fun u => Below w7.heap.size w7 u) u' := (kept_below _) _ _ hS hb
  refine ⟨va0, he, fun z => (Below w7.heap.size w7 z) ∧ (True → AskV z va0 0), ⟨Qva0, hA⟩, kept_and (kept_below _) (kept_ask _ _ _), fun _ _ h => h.1, ?_⟩
  clear hA hb he kva0 hS Qva0
  try simp only [List.getElem_toArray, List.getElem_cons_succ, List.getElem_cons_zero, Act.put, List.setIfInBounds_toArray, List.set_cons_succ, List.set_cons_zero]
  refine wpAnyV_only (i := 3) rfl (by kernel_rfl) rfl (fun u hS => wp_of_call (f := 15) (args := #[vp, .int .u8 1]) (by go_simp) (isThere_v vp 1 (some ⟨g, 0, none⟩) t.nodes (findT t.nodes h0) u HP.out) fun e u' hu => ?_)
  try simp only [List.getElem_toArray, List.getElem_cons_succ, List.getElem_cons_zero, Act.put, List.setIfInBounds_toArray, List.set_cons_succ, List.set_cons_zero]
  obtain ⟨va1, he, kva1, hA, hb⟩ := hu
  have Ova1 := Lib.hid kva1
  have Qva1 : (fun u => (Below w7.heap.size w7 u) ∧ (True → AskV u va0 0)) u' := (kept_and (kept_below _) (kept_ask _ _ _)) _ _ hS hb
  refine ⟨va1, he, fun z => ((Below w7.heap.size w7 z) ∧ (True → AskV z va0 0)) ∧ (True → AskV z va1 (stOf (findT t.nodes h0).isSome 1)), ⟨Qva1, hA⟩, kept_and (kept_and (kept_below _) (kept_ask _ _ _)) (kept_ask _ _ _), fun _ _ h => h.1, ?_⟩
  clear hA hb he kva1 hS Qva1
  try simp only [List.getElem_toArray, List.getElem_cons_succ, List.getElem_cons_zero, Act.put, List.setIfInBounds_toArray, List.set_cons_succ, List.set_cons_zero]
  refine wpAnyV_only (i := 5) rfl (by kernel_rfl) rfl (fun u hS => wp_of_call (f := 16) (args := #[vp, .bool false]) (by go_simp) (isKind_v vp false (some ⟨g, 0, none⟩) t.nodes (findT t.nodes h0) (w3.heap.size ≤ ·) u (NX7.out.below (hS.1.1)).rd.1 HP.out) fun e u' hu => ?_)
  try simp only [List.getElem_toArray, List.getElem_cons_succ, List.getElem_cons_zero, Act.put, List.setIfInBounds_toArray, List.set_cons_succ, List.set_cons_zero]
  obtain ⟨va2, he, kva2, hA, hb⟩ := hu
  have Ova2 := Lib.hid kva2
  have Qva2 : (fun u => ((Below w7.heap.size w7 u) ∧ (True → AskV u va0 0)) ∧ (True → AskV u va1 (stOf (findT t.nodes h0).isSome 1))) u' := (kept_and (kept_and (kept_below _) (kept_ask _ _ _)) (kept_ask _ _ _)) _ _ hS hb
  refine ⟨va2, he, fun z => (((Below w7.heap.size w7 z) ∧ (True → AskV z va0 0)) ∧ (True → AskV z va1 (stOf (findT t.nodes h0).isSome 1))) ∧ (True → AskV z va2 (kindS (findT t.nodes h0) false)), ⟨Qva2, hA⟩, kept_and (kept_and (kept_and (kept_below _) (kept_ask _ _ _)) (kept_ask _ _ _)) (kept_ask _ _ _), fun _ _ h => h.1, ?_⟩
  clear hA hb he kva2 hS Qva2
  try simp only [List.getElem_toArray, List.getElem_cons_succ, List.getElem_cons_zero, Act.put, List.setIfInBounds_toArray, List.set_cons_succ, List.set_cons_zero]
  refine wpAnyV_only (i := 8) rfl (by kernel_rfl) rfl (fun u hS => wp_of_call (f := 28) (args := #[.int .u32 (off : Int), .slice Ab b.length cb]) (by go_simp) (isPiece2_v off b.length cb Ab u) fun e u' hu => ?_)
  try simp only [List.getElem_toArray, List.getElem_cons_succ, List.getElem_cons_zero, Act.put, List.setIfInBounds_toArray, List.set_cons_succ, List.set_cons_zero]
  obtain ⟨va3, he, kva3, hA, hb⟩ := hu
  have Ova3 := Lib.hid kva3
  have Qva3 : (fun u => (((Below w7.heap.size w7 u) ∧ (True → AskV u va0 0)) ∧ (True → AskV u va1 (stOf (findT t.nodes h0).isSome 1))) ∧ (True → AskV u va2 (kindS (findT t.nodes h0) false))) u' := (kept_and (kept_and (kept_and (kept_below _) (kept_ask _ _ _)) (kept_ask _ _ _)) (kept_ask _ _ _)) _ _ hS hb
  refine ⟨va3, he, fun z => ((((Below w7.heap.size w7 z) ∧ (True → AskV z va0 0)) ∧ (True → AskV z va1 (stOf (findT t.nodes h0).isSome 1))) ∧ (True → AskV z va2 (kindS (findT t.nodes h0) false))) ∧ (True → AskV z va3 (stOf (decide (0 < b.length) && decide (b.length ≤ 64) && decide (off + b.length ≤ 4096)) 8)), ⟨Qva3, hA⟩, kept_and (kept_and (kept_and (kept_and (kept_below _) (kept_ask _ _ _)) (kept_ask _ _ _)) (kept_ask _ _ _)) (kept_ask _ _ _), fun _ _ h => h.1, ?_⟩
  clear hA hb he kva3 hS Qva3
  try simp only [List.getElem_toArray, List.getElem_cons_succ, List.getElem_cons_zero, Act.put, List.setIfInBounds_toArray, List.set_cons_succ, List.set_cons_zero]
  refine wpAnyV_only (i := 10) rfl (by kernel_rfl) rfl (fun u hS => wp_of_call (f := 23) (args := #[.agg (trC (.slice (some ⟨g, 0, none⟩) t.nodes.length c) t ss).toArray]) (by go_simp) (hasCount_v _ t (w3.heap.size ≤ ·) u (NX7.out.below (hS.1.1.1.1)).o.at) fun e u' hu => ?_)
  try simp only [List.getElem_toArray, List.getElem_cons_succ, List.getElem_cons_zero, Act.put, List.setIfInBounds_toArray, List.set_cons_succ, List.set_cons_zero]
  obtain ⟨va4, he, kva4, hA, hb⟩ := hu
  have Ova4 := Lib.hid kva4
  have Qva4 : (fun u => ((((Below w7.heap.size w7 u) ∧ (True → AskV u va0 0)) ∧ (True → AskV u va1 (stOf (findT t.nodes h0).isSome 1))) ∧ (True → AskV u va2 (kindS (findT t.nodes h0) false))) ∧ (True → AskV u va3 (stOf (decide (0 < b.length) && decide (b.length ≤ 64) && decide (off + b.length ≤ 4096)) 8))) u' := (kept_and (kept_and (kept_and (kept_and (kept_below _) (kept_ask _ _ _)) (kept_ask _ _ _)) (kept_ask _ _ _)) (kept_ask _ _ _)) _ _ hS hb
  refine ⟨va4, he, fun z => (((((Below w7.heap.size w7 z) ∧ (True → AskV z va0 0)) ∧ (True → AskV z va1 (stOf (findT t.nodes h0).isSome 1))) ∧ (True → AskV z va2 (kindS (findT t.nodes h0) false))) ∧ (True → AskV z va3 (stOf (decide (0 < b.length) && decide (b.length ≤ 64) && decide (off + b.length ≤ 4096)) 8))) ∧ (True → AskV z va4 (stOf (decide (t.count < 2147483648)) 7)), ⟨Qva4, hA⟩, kept_and (kept_and (kept_and (kept_and (kept_and (kept_below _) (kept_ask _ _ _)) (kept_ask _ _ _)) (kept_ask _ _ _)) (kept_ask _ _ _)) (kept_ask _ _ _), fun _ _ h => h.1, ?_⟩
  clear hA hb he kva4 hS Qva4
  try simp only [List.getElem_toArray, List.getElem_cons_succ, List.getElem_cons_zero, Act.put, List.setIfInBounds_toArray, List.set_cons_succ, List.set_cons_zero]
  refine wpAnyV_only (i := 11) rfl (by kernel_rfl) rfl (fun ub hS => wp_of_run2 (run_asks5 rfl rfl rfl rfl rfl rfl Ova0.out Ova1.out Ova2.out Ova3.out Ova4.out) ⟨fun z => (fun u => (((((Below w7.heap.size w7 u) ∧ (True → AskV u va0 0)) ∧ (True → AskV u va1 (stOf (findT t.nodes h0).isSome 1))) ∧ (True → AskV u va2 (kindS (findT t.nodes h0) false))) ∧ (True → AskV u va3 (stOf (decide (0 < b.length) && decide (b.length ≤ 64) && decide (off + b.length ≤ 4096)) 8))) ∧ (True → AskV u va4 (stOf (decide (t.count < 2147483648)) 7))) z ∧ Cs z ub.heap.size 55 #[va0, va1, va2, va3, va4], ⟨(kept_and (kept_and (kept_and (kept_and (kept_and (kept_below _) (kept_ask _ _ _)) (kept_ask _ _ _)) (kept_ask _ _ _)) (kept_ask _ _ _)) (kept_ask _ _ _)) _ _ hS ((Below.refl _ _).alloc (Nat.le_refl _) _), Cs.new _ _ _⟩, kept_and (kept_and (kept_and (kept_and (kept_and (kept_and (kept_below _) (kept_ask _ _ _)) (kept_ask _ _ _)) (kept_ask _ _ _)) (kept_ask _ _ _)) (kept_ask _ _ _)) (kept_cs _ _ _), fun _ _ h => h.1, ?_⟩)
  try simp only [List.getElem_toArray, List.getElem_cons_succ, List.getElem_cons_zero, Act.put, List.setIfInBounds_toArray, List.set_cons_succ, List.set_cons_zero]
  refine wpAnyV_only (i := 12) rfl (by kernel_rfl) rfl (fun u hS => wp_of_call (f := 13) (args := #[.slice (some ⟨ub.heap.size, 0, none⟩) 5 5]) (by go_simp) (first_v [va0, va1, va2, va3, va4] (orS 0 (orS (stOf (findT t.nodes h0).isSome 1) (orS (kindS (findT t.nodes h0) false) (orS (stOf (decide (0 < b.length) && decide (b.length ≤ 64) && decide (off + b.length ≤ 4096)) 8) (orS (stOf (decide (t.count < 2147483648)) 7) 0))))) ub.heap.size u (by simp) hS.2 (Chain.cons (by omega) (hS.1.1.1.1.1.2 trivial) fun z0 => (Chain.cons (st_lt _ (by omega)) (hS.1.1.1.1.2 trivial) fun z1 => (Chain.cons (kind_lt _ _) (hS.1.1.1.2 trivial) fun z2 => (Chain.cons (st_lt _ (by omega)) (hS.1.1.2 trivial) fun z3 => (Chain.cons (st_lt _ (by omega)) (hS.1.2 trivial) fun z4 => rfl)))))) fun e u' ⟨he, hb⟩ => ⟨_, he, _, (kept_and (kept_and (kept_and (kept_and (kept_and (kept_and (kept_below _) (kept_ask _ _ _)) (kept_ask _ _ _)) (kept_ask _ _ _)) (kept_ask _ _ _)) (kept_ask _ _ _)) (kept_cs _ _ _)) _ _ hS hb, kept_and (kept_and (kept_and (kept_and (kept_and (kept_and (kept_below _) (kept_ask _ _ _)) (kept_ask _ _ _)) (kept_ask _ _ _)) (kept_ask _ _ _)) (kept_ask _ _ _)) (kept_cs _ _ _), fun _ _ h => h, ?_⟩)
  try simp only [List.getElem_toArray, List.getElem_cons_succ, List.getElem_cons_zero, Act.put, List.setIfInBounds_toArray, List.set_cons_succ, List.set_cons_zero]
  refine wpAnyV_only (i := 13) rfl (by kernel_rfl) rfl (fun u hS => wp_of_run2 (v := .int .u8 (((orS 0 (orS (stOf (findT t.nodes h0).isSome 1) (orS (kindS (findT t.nodes h0) false) (orS (stOf (decide (0 < b.length) && decide (b.length ≤ 64) && decide (off + b.length ≤ 4096)) 8) (orS (stOf (decide (t.count < 2147483648)) 7) 0))))) : Nat) : Int)) (by go_simp) ⟨_, hS, kept_and (kept_and (kept_and (kept_and (kept_and (kept_and (kept_below _) (kept_ask _ _ _)) (kept_ask _ _ _)) (kept_ask _ _ _)) (kept_ask _ _ _)) (kept_ask _ _ _)) (kept_cs _ _ _), fun _ _ h => h, ?_⟩)
  try simp only [List.getElem_toArray, List.getElem_cons_succ, List.getElem_cons_zero, Act.put, List.setIfInBounds_toArray, List.set_cons_succ, List.set_cons_zero]
  refine wpAnyV_done (by kernel_rfl) (fun w8 hz => ?_) _
  have B78 := Lib.hid hz.1.1.1.1.1.1
  clear hz
  rw [← HLS.out]
  have NX8 := Lib.hid (NX7.out.below B78.out)
  have B8 := Lib.hid (below_chain B7.out B78.out)
  have C38 := Lib.hid (C37.out.below B78.out C37.out.lt)
  by_cases hs : L.2 = 0
  · have e0 : ((L.2 : Int) != 0) = false := by rw [hs]; rfl
    have HS0 := Lib.hid hs
    obtain ⟨hb0, hb64, hob, hct, hL1, d, hd⟩ := HL0.out hs
    obtain ⟨i, hi, hdi, rfl⟩ := nodeP_at HP.out hd
    have HDI := Lib.hid hdi
    have HIN := Lib.hid (show d.ino = h0.1 from ((findT_some HM.out.rise).1 hd).2.1)
    have hi' : i < ls.length := by rw [NX.out.rd.2]; exact hi
    have HIS := Lib.hid (NX.out.is hi' hi)
    have HL1 := Lib.hid hL1
    have HD4 := Lib.hid (HM.out.ok _ (List.getElem_mem hi)).size
    obtain ⟨cur, hcur, hsz, hcl⟩ := NX8.out.cells
    obtain ⟨dv, ev, hf, hbs, hen⟩ := hcl i hi'
    have HCR := Lib.hid hcur
    have HSZ := Lib.hid hsz
    have HEN := Lib.hid hen
    obtain ⟨Ad, cd, rfl, hrd, -⟩ := hbs
    have HRD := Lib.hid hrd.rd
    have HQ4 := Lib.hid (show cur[i * 6 + 4]? = some (.slice Ad ls[i].1.data.length cd) by rw [hf 4 (by decide)]; rfl)
    have HDL := Lib.hid (show ls[i].1.data.length ≤ 4096 by rw [HIS.out]; exact HD4.out)
    have HBG := Lib.hid NX8.out.o.big
    have HBL := Lib.hid NX8.out.blk
    clear hd hdi hL1 hcur hcl hf hrd hen hsz hs
    obtain ⟨m, hm⟩ : ∃ m, m = max ls[i].1.data.length (off + b.length) := ⟨_, rfl⟩
    have HMX := Lib.hid hm
    have hm4 : m ≤ 4096 := by have := HDL.out; omega
    have hmo : off + b.length ≤ m := by omega
    have e14 : IntKind.i64.wrap ((off : Int) + (b.length : Int)) = ((off + b.length : Nat) : Int) := by rw [IntWalk.i64_in _ (by omega)]; omega
    have e11 : IntKind.i64.wrap (off : Int) = off := IntWalk.i64_in _ (by omega)
    clear hm
    go_wp2_with fail
    refine wp_region_V [19] (fun u => Below w8.heap.size w8 u) hmix ((Below.refl _ _).drew) ?_
    change wpAnyV _ _ _ _ _ _ _ _ _
    refine wpAnyV_take (i := 0) (v := .pointer (some ⟨g, i * 6, none⟩)) 20 (kept_below _) rfl (by kernel_rfl) (by kernel_rfl) (fun _ _ _ h => h) (fun _ h => h) (DoesV.reads (by rfl) fun w9 hS => by go_simp) ?_
    try simp only [List.getElem_toArray, List.getElem_cons_succ, List.getElem_cons_zero, Act.put, List.setIfInBounds_toArray, List.set_cons_succ, List.set_cons_zero]
    refine wpAnyV_take (i := 1) (v := .pointer (some ⟨g, i * 6, none⟩)) 20 (kept_below _) rfl (by kernel_rfl) (by kernel_rfl) (fun _ _ _ h => h) (fun _ h => h) (DoesV.reads (by rfl) fun w9 hS => by go_simp) ?_
    try simp only [List.getElem_toArray, List.getElem_cons_succ, List.getElem_cons_zero, Act.put, List.setIfInBounds_toArray, List.set_cons_succ, List.set_cons_zero]
    refine wpAnyV_take (i := 2) (v := .pointer (some ⟨g, i * 6, none⟩)) 20 (kept_below _) rfl (by kernel_rfl) (by kernel_rfl) (fun _ _ _ h => h) (fun _ h => h) (DoesV.reads (by rfl) fun w9 hS => by go_simp) ?_
    try simp only [List.getElem_toArray, List.getElem_cons_succ, List.getElem_cons_zero, Act.put, List.setIfInBounds_toArray, List.set_cons_succ, List.set_cons_zero]
    refine wpAnyV_take (i := 3) (v := .pointer (some ⟨g, i * 6 + 4, none⟩)) 20 (kept_below _) rfl (by kernel_rfl) (by kernel_rfl) (fun _ _ _ h => h) (fun _ h => h) (DoesV.reads (by rfl) fun w9 hS => by go_simp) ?_
    try simp only [List.getElem_toArray, List.getElem_cons_succ, List.getElem_cons_zero, Act.put, List.setIfInBounds_toArray, List.set_cons_succ, List.set_cons_zero]
    refine wpAnyV_take (i := 4) (v := .slice Ad ls[i].1.data.length cd) 20 (kept_below _) rfl (by kernel_rfl) (by kernel_rfl) (fun _ _ _ h => h) (fun _ h => h) (DoesV.reads (by rfl) fun w9 hS => by have q4 : w9.cell? ⟨g, i * 6 + 4, none⟩ = some (.slice Ad ls[i].1.data.length cd) := (HCR.out.below hS HCR.out.lt).cell (i * 6 + 4) HQ4.out; go_simp) ?_
    try simp only [List.getElem_toArray, List.getElem_cons_succ, List.getElem_cons_zero, Act.put, List.setIfInBounds_toArray, List.set_cons_succ, List.set_cons_zero]
    refine wpAnyV_take (i := 5) (v := .pointer (some ⟨g, i * 6, none⟩)) 20 (kept_below _) rfl (by kernel_rfl) (by kernel_rfl) (fun _ _ _ h => h) (fun _ h => h) (DoesV.reads (by rfl) fun w9 hS => by go_simp) ?_
    try simp only [List.getElem_toArray, List.getElem_cons_succ, List.getElem_cons_zero, Act.put, List.setIfInBounds_toArray, List.set_cons_succ, List.set_cons_zero]
    refine wpAnyV_take (i := 6) (v := .pointer (some ⟨g, i * 6, none⟩)) 20 (kept_below _) rfl (by kernel_rfl) (by kernel_rfl) (fun _ _ _ h => h) (fun _ h => h) (DoesV.reads (by rfl) fun w9 hS => by go_simp) ?_
    try simp only [List.getElem_toArray, List.getElem_cons_succ, List.getElem_cons_zero, Act.put, List.setIfInBounds_toArray, List.set_cons_succ, List.set_cons_zero]
    refine wpAnyV_take (i := 7) (v := .pointer (some ⟨g, i * 6 + 4, none⟩)) 20 (kept_below _) rfl (by kernel_rfl) (by kernel_rfl) (fun _ _ _ h => h) (fun _ h => h) (DoesV.reads (by rfl) fun w9 hS => by go_simp) ?_
    try simp only [List.getElem_toArray, List.getElem_cons_succ, List.getElem_cons_zero, Act.put, List.setIfInBounds_toArray, List.set_cons_succ, List.set_cons_zero]
    refine wpAnyV_take (i := 8) (v := .slice Ad ls[i].1.data.length cd) 20 (kept_below _) rfl (by kernel_rfl) (by kernel_rfl) (fun _ _ _ h => h) (fun _ h => h) (DoesV.reads (by rfl) fun w9 hS => by have q4 : w9.cell? ⟨g, i * 6 + 4, none⟩ = some (.slice Ad ls[i].1.data.length cd) := (HCR.out.below hS HCR.out.lt).cell (i * 6 + 4) HQ4.out; go_simp) ?_
    try simp only [List.getElem_toArray, List.getElem_cons_succ, List.getElem_cons_zero, Act.put, List.setIfInBounds_toArray, List.set_cons_succ, List.set_cons_zero]
    refine wpAnyV_take (i := 9) (v := .int .i64 (ls[i].1.data.length : Int)) 20 (kept_below _) rfl (by kernel_rfl) (by kernel_rfl) (fun _ _ _ h => h) (fun _ h => h) (DoesV.reads (by rfl) fun w9 hS => by go_simp) ?_
    try simp only [List.getElem_toArray, List.getElem_cons_succ, List.getElem_cons_zero, Act.put, List.setIfInBounds_toArray, List.set_cons_succ, List.set_cons_zero]
    refine wpAnyV_take (i := 10) (v := .int .u32 (off : Int)) 20 (kept_below _) rfl (by kernel_rfl) (by kernel_rfl) (fun _ _ _ h => h) (fun _ h => h) (DoesV.reads (by rfl) fun w9 hS => by go_simp) ?_
    try simp only [List.getElem_toArray, List.getElem_cons_succ, List.getElem_cons_zero, Act.put, List.setIfInBounds_toArray, List.set_cons_succ, List.set_cons_zero]
    refine wpAnyV_take (i := 11) (v := .int .i64 (off : Int)) 20 (kept_below _) rfl (by kernel_rfl) (by kernel_rfl) (fun _ _ _ h => h) (fun _ h => h) (DoesV.reads (by rfl) fun w9 hS => by go_simp) ?_
    try simp only [List.getElem_toArray, List.getElem_cons_succ, List.getElem_cons_zero, Act.put, List.setIfInBounds_toArray, List.set_cons_succ, List.set_cons_zero]
    refine wpAnyV_take (i := 12) (v := .slice Ab b.length cb) 20 (kept_below _) rfl (by kernel_rfl) (by kernel_rfl) (fun _ _ _ h => h) (fun _ h => h) (DoesV.reads (by rfl) fun w9 hS => by go_simp) ?_
    try simp only [List.getElem_toArray, List.getElem_cons_succ, List.getElem_cons_zero, Act.put, List.setIfInBounds_toArray, List.set_cons_succ, List.set_cons_zero]
    refine wpAnyV_take (i := 13) (v := .int .i64 (b.length : Int)) 20 (kept_below _) rfl (by kernel_rfl) (by kernel_rfl) (fun _ _ _ h => h) (fun _ h => h) (DoesV.reads (by rfl) fun w9 hS => by go_simp) ?_
    try simp only [List.getElem_toArray, List.getElem_cons_succ, List.getElem_cons_zero, Act.put, List.setIfInBounds_toArray, List.set_cons_succ, List.set_cons_zero]
    refine wpAnyV_take (i := 14) (v := .int .i64 ((off + b.length : Nat) : Int)) 20 (kept_below _) rfl (by kernel_rfl) (by kernel_rfl) (fun _ _ _ h => h) (fun _ h => h) (DoesV.reads (by rfl) fun w9 hS => by go_simp) ?_
    try simp only [List.getElem_toArray, List.getElem_cons_succ, List.getElem_cons_zero, Act.put, List.setIfInBounds_toArray, List.set_cons_succ, List.set_cons_zero]
    refine wpAnyV_take (i := 15) (v := .int .i64 (m : Int)) 20 (kept_below _) rfl (by kernel_rfl) (by kernel_rfl) (fun _ _ _ h => h) (fun _ h => h) (DoesV.reads (by rfl) fun w9 hS => by have e15 := HMX.out; go_simp; omega) ?_
    try simp only [List.getElem_toArray, List.getElem_cons_succ, List.getElem_cons_zero, Act.put, List.setIfInBounds_toArray, List.set_cons_succ, List.set_cons_zero]
    refine wpAnyV_only (i := 16) rfl (by kernel_rfl) rfl (fun u hS => wp_of_call (f := 29) (args := #[.slice Ad ls[i].1.data.length cd, .int .i64 (m : Int)]) (by go_simp) (sized_v ls[i].1.data Ad cd m u (by omega) (by have := HDL.out; omega) (HRD.out.below hS)) fun e u' hu => ?_)
    try simp only [List.getElem_toArray, List.getElem_cons_succ, List.getElem_cons_zero, Act.put, List.setIfInBounds_toArray, List.set_cons_succ, List.set_cons_zero]
    obtain ⟨⟨v9, he, gd, hv9, hge, hcd⟩, hb⟩ := hu
    have HGD := Lib.hid (Nat.le_trans hS.size hge)
    have HV9 := Lib.hid hv9
    refine ⟨v9, he, fun z => Below w8.heap.size w8 z ∧ Cs z gd 5 (cellsOf (resB ls[i].1.data m)).toArray, ⟨below_chain hS hb, hcd⟩, kept_and (kept_below _) (kept_cs _ _ _), fun _ _ h => h.1, ?_⟩
    clear hcd hb he hge hS hv9
    try simp only [List.getElem_toArray, List.getElem_cons_succ, List.getElem_cons_zero, Act.put, List.setIfInBounds_toArray, List.set_cons_succ, List.set_cons_zero]
    refine wpAnyV_only (i := 17) rfl (by kernel_rfl) rfl (fun u hS => wp_of_run2 (v := .pointer (some ⟨g, i * 6, none⟩)) (by go_simp) ⟨_, hS, kept_and (kept_below _) (kept_cs _ _ _), fun _ _ h => h, ?_⟩)
    try simp only [List.getElem_toArray, List.getElem_cons_succ, List.getElem_cons_zero, Act.put, List.setIfInBounds_toArray, List.set_cons_succ, List.set_cons_zero]
    refine wpAnyV_only (i := 18) rfl (by kernel_rfl) rfl (fun u hS => wp_of_run2 (v := .pointer (some ⟨g, i * 6 + 4, none⟩)) (by go_simp) ⟨_, hS, kept_and (kept_below _) (kept_cs _ _ _), fun _ _ h => h, ?_⟩)
    try simp only [List.getElem_toArray, List.getElem_cons_succ, List.getElem_cons_zero, Act.put, List.setIfInBounds_toArray, List.set_cons_succ, List.set_cons_zero]
    refine wpAnyV_only (i := 19) rfl (by kernel_rfl) rfl (fun u hS => wp_store1 26 _ _ rfl g (i * 6 + 4) rfl v9 rfl (by rw [HV9.out]; rfl) infoBs1 _ _ (HCR.out.below hS.1 HCR.out.lt) (by have := HSZ.out; omega) fun u' hk ht => ⟨fun z => Cs z g 34 (cur.setIfInBounds (i * 6 + 4) v9) ∧ Cs z gd 5 (cellsOf (resB ls[i].1.data m)).toArray ∧ Turn w8 z (fun k => k = g), ⟨hk, hS.2.turn ht (by have := HGD.out; have := HCR.out.lt; omega), (Turn.of_below hS.1 _).trans ht fun _ _ h => h⟩, kept_and (kept_cs _ _ _) (kept_and (kept_cs _ _ _) (kept_turn _ _)), fun h => absurd (by decide : (19 : Nat) ∈ [19]) h, ?_⟩)
    try simp only [List.getElem_toArray, List.getElem_cons_succ, List.getElem_cons_zero, Act.put, List.setIfInBounds_toArray, List.set_cons_succ, List.set_cons_zero]
    refine wpAnyV_done (by kernel_rfl) (fun w9 hz => ?_) _
    have HCR9 := Lib.hid hz.1
    have HD9 := Lib.hid hz.2.1
    have T9 := Lib.hid hz.2.2
    clear hz
    have B9 := Lib.hid (show Below w.heap.size w w9 from B8.out.trans (Turn.below T9.out B8.out.size fun q e => by have := HBL.out.1; have := B3.out.size; omega))
    obtain ⟨w10, hcp, hc10, ht10⟩ := run_copyB w9 gd off (m - off) (m - off) b.length cb Ab 5 (resB ls[i].1.data m) b rfl (HRB.out.below B9.out) HD9.out (by rw [resB_len]; omega) 3
    have HCP := Lib.hid hcp
    have HC10 := Lib.hid (show Cs w10 gd 5 (cellsOf (putB ls[i].1.data off b)).toArray by rw [List.take_of_length_le (by omega), HMX.out, put_is] at hc10; exact hc10)
    have HT10 := Lib.hid ht10
    have HV9m := Lib.hid (show v9 = .slice (some ⟨gd, 0, none⟩) m m by rw [HV9.out, resB_len])
    have q9 : w9.cell? ⟨g, i * 6 + 4, none⟩ = some (.slice (some ⟨gd, 0, none⟩) m m) := by rw [← HV9m.out]; exact HCR9.out.cell (i * 6 + 4) (Array.getElem?_setIfInBounds_self_of_lt (by have := HSZ.out; omega))
    have i9 : (off : Int) ≤ m := by omega
    clear hcp hc10 ht10
    go_wp2_with (first
      | (refine wpList_copy_run rfl _ _ 26 26 rfl _ _ rfl rfl HCP.out ?_; go_frame)
      | fail)
    have HCR10 := Lib.hid (HCR9.out.turn HT10.out (by have := HGD.out; have := HCR.out.lt; omega))
    have TW := Lib.hid (show Turn w8 w10 (fun k => k = g ∨ k = gd) from (T9.out.mono fun _ _ h => Or.inl h).trans (HT10.out.mono fun _ _ h => Or.inr h) fun _ _ h => h)
    have hdat : NxB w10 w3.heap.size g4 (.slice (some ⟨g, 0, none⟩) t.nodes.length c) ss { t with nodes := t.nodes.set i { ls[i].1 with data := putB ls[i].1.data off b } } (ls.set i ({ ls[i].1 with data := putB ls[i].1.data off b }, fun k => (ls[i].2 k ∨ w8.heap.size ≤ k) ∧ k < w10.heap.size)) S := by
      have hbl := HBL.out
      have hbx := NX8.out.o.box.lt
      have hgl := HCR.out.lt
      have hNl : w3.heap.size ≤ g4 := NX8.out.o.low
      refine NX8.out.cell HCR.out hi' (f := 4) (by decide) HCR10.out TW.out (fun k hk => hk.elim Or.inl fun e => Or.inr (Or.inr (by rw [e]; exact HGD.out))) fun cs hx => ?_
      obtain ⟨dv', nv', rfl, h1, h2, h3, h4, h5⟩ := hx
      have hob9 : OwnB w8 w10 v9 (putB ls[i].1.data off b) := ⟨gd, by rw [HV9m.out, putB_len, HMX.out], HGD.out, HC10.out⟩
      refine ⟨v9, nv', rfl, (hob9.bs (by rw [putB_len, ← HMX.out]; simp only [maxLen]; omega)).mono fun k _ hk => ⟨⟨⟨by omega, by omega⟩, by omega⟩, .inr hk⟩, (h2.turn TW.out fun k hk e => ?_).mono fun k _ hk => ⟨hk.1, .inl hk.2⟩, h3, h4, h5⟩
      rcases e with e | e
      · exact hk.1.2 e
      · have := NX8.out.top _ (List.getElem_mem hi') k hk.2
        have := HGD.out
        omega
    have NX10 := Lib.hid hdat
    have C3a := Lib.hid (C38.out.turn TW.out (by have := K3.out; have := HBL.out.1; have := HGD.out; have := C38.out.lt; omega))
    have B10 := Lib.hid (show Below w.heap.size w w10 from B9.out.trans (Turn.below HT10.out B9.out.size fun q e => by have := HGD.out; have := B8.out.size; omega))
    clear hdat
    have hk1 := Cs.new w10 51 #[Value.pointer (some ⟨g, i * 6, none⟩)]
    have hb1 : Below w10.heap.size w10 (w10.alloc (.cells #[Value.pointer (some ⟨g, i * 6, none⟩)] 51)) := (Below.refl _ _).alloc (Nat.le_refl _) _
    obtain ⟨g11, hg11⟩ : ∃ g11, g11 = w10.heap.size := ⟨_, rfl⟩
    obtain ⟨w11, hw11⟩ : ∃ w11, w11 = w10.alloc (.cells #[Value.pointer (some ⟨g, i * 6, none⟩)] 51) := ⟨_, rfl⟩
    rw [← hw11] at hk1 hb1 ⊢
    rw [← hg11] at hk1 ⊢
    have C11 := Lib.hid hk1
    have B11 := Lib.hid hb1
    have G11 := Lib.hid (Nat.le_of_eq hg11.symm)
    clear hk1 hb1 hg11 hw11
    have HB11 := Lib.hid (NX10.out.o.box.below B11.out NX10.out.o.box.lt)
    have HCR11 := Lib.hid (HCR10.out.below B11.out HCR10.out.lt)
    refine (change_v (trC (.slice (some ⟨g, 0, none⟩) t.nodes.length c) t ss) t.boot t.count g4 g11 [(g, i * 6)] w11 HB11.out HTL.out rfl rfl HBG.out.2.1 (by omega) C11.out (by simp) (by have := NX10.out.o.box.lt; have := G11.out; omega) (fun p hp => ?_)).mono ?_
    · obtain rfl : p = (g, i * 6) := by simpa using hp
      have h1 := HBL.out
      have h2 := G11.out
      have h3 := HCR10.out.lt
      exact ⟨h1.2, by dsimp only; omega, _, _, HCR11.out, by have := HSZ.out; simp; omega⟩
    rintro e w12 ⟨rfl, hch⟩
    have T12 := Lib.hid hch.turn
    have HBX12 := Lib.hid (show Cs w12 g4 31 (trC (.slice (some ⟨g, 0, none⟩) t.nodes.length c) { t with count := t.count + 1 } ss).toArray from hch.box)
    have HCR12 := Lib.hid (show Cs w12 g 34 (((cur.setIfInBounds (i * 6 + 4) v9)).setIfInBounds (i * 6 + 3) (.int .u64 ((stampT t : Nat) : Int))) by have h1 := hch.blk g _ _ HBL.out.2 HCR11.out; rw [stamp_one] at h1; exact h1)
    clear hch
    have TT := Lib.hid (show Turn w10 w12 (fun q => q = g4 ∨ q = g) from (Turn.of_below B11.out _).trans (T12.out.mono fun q _ hq => by rcases hq with hq | ⟨p, hp, hq⟩; exact .inl hq; rw [List.mem_singleton] at hp; subst hp; exact .inr hq) fun _ _ h => h)
    have hst : stampT t < 18446744073709551616 := by unfold stampT; have := HBG.out.2.1; omega
    have NX12 := Lib.hid (NxB.stamp NX10.out HCR10.out (i := i) (by rw [List.length_set]; exact hi') hst (G := fun q => q = g4 ∨ q = g) HBX12.out HCR12.out TT.out (fun k hk => by rcases hk with hk | hk; exact .inl hk; exact .inr (.inl hk)) (by show t.count + 1 < 4294967296; omega))
    have HEQ := Lib.hid (show { t with nodes := (t.nodes.set i { ls[i].1 with data := putB ls[i].1.data off b }).set i (chgN (stampT t) ((ls.set i (({ ls[i].1 with data := putB ls[i].1.data off b } : Nd), fun k => (ls[i].2 k ∨ w8.heap.size ≤ k) ∧ k < w10.heap.size))[i]'(by rw [List.length_set]; exact hi')).1), count := t.count + 1 } = dataT t h0.1 (fun l => putB l off b) by
      have e1 := set_updN HM.out.rise hi fun m => { m with chg := stampT t, data := putB m.data off b }
      unfold dataT
      rw [show h0.1 = t.nodes[i].ino from (by rw [HDI.out, HIN.out]), ← e1, List.getElem_set_self, List.set_set, HIS.out]
      rfl)
    have C3b := Lib.hid (C3a.out.turn TT.out (by have := K3.out; have := HBL.out.1; have : w3.heap.size ≤ g4 := NX8.out.o.low; omega))
    have B12 := Lib.hid (show Below w.heap.size w w12 from B10.out.trans (Turn.below TT.out B10.out.size fun q e => by have := HBL.out.1; have := B3.out.size; have : w3.heap.size ≤ g4 := NX8.out.o.low; omega))
    have HTL2 := Lib.hid (show (trC (.slice (some ⟨g, 0, none⟩) t.nodes.length c) { t with count := t.count + 1 } ss).length = 16 from HTL.out)
    have HTI2 := Lib.hid (show ∀ v ∈ trC (.slice (some ⟨g, 0, none⟩) t.nodes.length c) { t with count := t.count + 1 } ss, v.oneCell' = true from NX12.out.o.at.one)
    go_wp2_with (first
      | ((with_reducible show wpList _ _ _ _ _ w12); refine wpList_loadS rfl 31 _ rfl g4 rfl (trC (.slice (some ⟨g, 0, none⟩) t.nodes.length c) { t with count := t.count + 1 } ss) HBX12.out _ Tryd.underlying31 rfl (by rw [HTL2.out]; exact infoTree) ?_; go_frame)
      | ((with_reducible show wpList _ _ _ _ _ w12); refine wpList_storeS rfl 31 _ _ rfl g3 rfl (trC (.slice (some ⟨g, 0, none⟩) t.nodes.length c) { t with count := t.count + 1 } ss) treeZ rfl C3b.out (by rw [HTL2.out]; rfl) HTI2.out (by rw [HTL2.out]; exact infoTree) ?_; intro wz hk2 ht2; go_frame; have C3z := Lib.hid hk2; have Tz := Lib.hid ht2; have Bz := Lib.hid (B12.out.trans (ht2.below B12.out.size fun q e => e ▸ G3.out)); clear hk2 ht2)
      | fail)
    refine bodyPost_ret (results_agg_tmp (P := Tryd.prog) (p := 8) (ty := 31) rfl _ _ g3 0 (trC (.slice (some ⟨g, 0, none⟩) t.nodes.length c) { t with count := t.count + 1 } ss) rfl (At.whole C3z.out) _ Tryd.underlying31 rfl (by rw [HTL2.out]; exact infoTree)) rfl ?_
    refine ⟨_, by rw [HS0.out]; rfl, ?_, Bz.out⟩
    rw [HL1.out, ← HEQ.out]
    exact (NX12.out.o.at.turn Tz.out fun k hk e => by have := K3.out; omega).mono fun k _ hk => Or.inr (by have := B3.out.size; omega)
  · have e0 : ((L.2 : Int) != 0) = true := by simp; omega
    have HZ := Lib.hid (HLZ.out hs)
    go_wp2_with (first
      | ((with_reducible show wpList _ _ _ _ _ w8); refine wpList_loadS rfl 31 _ rfl g4 rfl (trC (.slice (some ⟨g, 0, none⟩) t.nodes.length c) t ss) NX8.out.o.box _ Tryd.underlying31 rfl (by rw [HTL.out]; exact infoTree) ?_; go_frame)
      | ((with_reducible show wpList _ _ _ _ _ w8); refine wpList_storeS rfl 31 _ _ rfl g3 rfl (trC (.slice (some ⟨g, 0, none⟩) t.nodes.length c) t ss) treeZ rfl C38.out (by rw [HTL.out]; rfl) HTI.out (by rw [HTL.out]; exact infoTree) ?_; intro w9 hk2 ht2; go_frame; have C39 := Lib.hid hk2; have T9 := Lib.hid ht2; clear hk2 ht2)
      | fail)
    refine bodyPost_ret (results_agg_tmp (P := Tryd.prog) (p := 8) (ty := 31) rfl _ _ g3 0 (trC (.slice (some ⟨g, 0, none⟩) t.nodes.length c) t ss) rfl (At.whole C39.out) _ Tryd.underlying31 rfl (by rw [HTL.out]; exact infoTree)) rfl ?_
    refine ⟨_, by rfl, ?_, B8.out.trans (T9.out.below B8.out.size fun q e => e ▸ G3.out)⟩
    rw [HZ.out]
    exact ((NX8.out.o.at).turn T9.out fun k hk e => by have := K3.out; omega).mono fun k _ hk => Or.inr (by have := B3.out.size; omega)

end Go.Proofs.YtenpmbfncnepgaaDoor
