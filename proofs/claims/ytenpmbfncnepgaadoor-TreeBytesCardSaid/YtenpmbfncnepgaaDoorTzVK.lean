/- TzVK: TzV TzRa. -/
import Derived.Test.YtenpmbfncnepgaaDoorTzT
/- The program: New, isAside. -/
namespace Go.Proofs.YtenpmbfncnepgaaDoor
open Go.RowKit Go.Shelf Go.Maps
set_option linter.unusedVariables false
set_option maxRecDepth 100000
set_option linter.unusedSimpArgs false

def rawN : Nd := ⟨1, 1, true, 0, [], []⟩
def rawT : Tr := ⟨[rawN], 1, 1, 0, [(0, 0, []), (0, 0, []), (0, 0, []), (0, 0, [])]⟩
def zss : List Value := treeZ.drop 4
theorem zses (w : World) (F : Nat → Prop) : SesAt w F zss rawT.sess :=
  ses_four (x0 := (0, 0, [])) (x1 := (0, 0, [])) (x2 := (0, 0, [])) (x3 := (0, 0, [])) (BsV.nil w F) (BsV.nil w F) (BsV.nil w F) (BsV.nil w F) (by intro x hx; simp at hx; rw [hx]; decide)
theorem raw_one (w : World) (A : Option Addr) (t : Tr) : ∀ v ∈ trC (.slice A 1 1) t zss, v.oneCell' = true := by
  intro v hv
  unfold trC at hv
  simp only [List.mem_cons] at hv
  rcases hv with rfl | rfl | rfl | rfl | hv
  · rfl
  · rfl
  · rfl
  · rfl
  · exact (zses w fun _ => True).one v hv
set_option maxHeartbeats 4000000 in
theorem New_v (w : World) : Calls Tryd.prog 5 #[] w fun e w' => ∃ cs, e = .returned (.agg cs.toArray) ∧ TrAt w' (w.heap.size ≤ ·) cs newT ∧ Below w.heap.size w w' := by
  go_enter Tryd.func5, Tryd.ntmps5
  go_wp2_with (first
    | ((with_reducible show wpList _ _ _ _ _ w); refine wpList_allocS rfl 31 rfl treeZ treeZero ?_; intro g1 w1 hk1 hb1 hg1; go_frame; have C1 := Lib.hid hk1; have B1 := Lib.hid hb1; have G1 := Lib.hid hg1; clear hk1 hb1 hg1)
    | ((with_reducible show wpList _ _ _ _ _ w1); refine wpList_buildNd rfl _ rfl rawN (.slice none 0 0) (.slice none 0 0) rfl ?_; intro g2 w2 hk1 hb1 hg1; go_frame; have C2 := Lib.hid hk1; have C12 := Lib.hid (C1.out.below hb1 C1.out.lt); have B2 := Lib.hid (below_chain B1.out hb1); have G2 := Lib.hid (Nat.le_trans B1.out.size hg1); have K1 := Lib.hid C1.out.lt; have G12 := Lib.hid hg1; clear hk1 hb1 hg1)
    | ((with_reducible show wpList _ _ _ _ _ w2); refine wpList_allocS rfl 31 rfl treeZ treeZero ?_; intro g3 w3 hk1 hb1 hg1; go_frame; have C3 := Lib.hid hk1; have C23 := Lib.hid (C2.out.below hb1 C2.out.lt); have C13 := Lib.hid (C12.out.below hb1 C12.out.lt); have B3 := Lib.hid (below_chain B2.out hb1); have G3 := Lib.hid (Nat.le_trans B2.out.size hg1); have K2 := Lib.hid C2.out.lt; have K12 := Lib.hid C12.out.lt; have G23 := Lib.hid hg1; clear hk1 hb1 hg1)
    | ((with_reducible show wpList _ _ _ _ _ w3); refine wpList_storeS rfl 31 _ _ rfl g3 rfl (trC (.slice (some ⟨g2, 0, none⟩) 1 1) rawT zss) treeZ rfl C3.out rfl (raw_one w3 _ _) infoTree ?_; intro w4 hk2 ht2; go_frame; have C4 := Lib.hid hk2; have T4 := Lib.hid ht2; have C24 := Lib.hid (C23.out.turn ht2 (by have := K2.out; have := G23.out; omega)); have C14 := Lib.hid (C13.out.turn ht2 (by have := K12.out; have := G23.out; omega)); have B4 := Lib.hid (B3.out.trans (ht2.below B3.out.size fun q e => e ▸ G3.out)); have q0 : w4.cell? ⟨g3, 0, none⟩ = some (.slice (some ⟨g2, 0, none⟩) 1 1) := hk2.cell 0 rfl; clear hk2 ht2)
    | fail)
  have hk1 := Cs.new w4 51 #[Value.pointer (some ⟨g2, 0, none⟩)]
  have hb1 : Below w4.heap.size w4 (w4.alloc (.cells #[Value.pointer (some ⟨g2, 0, none⟩)] 51)) := (Below.refl _ _).alloc (Nat.le_refl _) _
  obtain ⟨g11, hg11⟩ : ∃ g11, g11 = w4.heap.size := ⟨_, rfl⟩
  obtain ⟨w5, hw5⟩ : ∃ w5, w5 = w4.alloc (.cells #[Value.pointer (some ⟨g2, 0, none⟩)] 51) := ⟨_, rfl⟩
  rw [← hw5] at hk1 hb1 ⊢
  rw [← hg11] at hk1 ⊢
  have C11 := Lib.hid hk1
  have B11 := Lib.hid hb1
  have G11 := Lib.hid (Nat.le_of_eq hg11.symm)
  clear hk1 hb1 hg11 hw5
  have C45 := Lib.hid (C4.out.below B11.out C4.out.lt)
  have C25 := Lib.hid (C24.out.below B11.out C24.out.lt)
  have C15 := Lib.hid (C14.out.below B11.out C14.out.lt)
  refine (change_v (trC (.slice (some ⟨g2, 0, none⟩) 1 1) rawT zss) 1 0 g3 g11 [(g2, 0)] w5 C45.out rfl rfl rfl (by decide) (by decide) C11.out (by simp) (by have := C4.out.lt; have := G11.out; omega) (fun p hp => ?_)).mono ?_
  · obtain rfl : p = (g2, 0) := by simpa using hp
    have h1 := K2.out
    have h2 := G11.out
    have h3 := C24.out.lt
    have h4 := G23.out
    exact ⟨by dsimp only; omega, by dsimp only; omega, _, _, C25.out, by show (0 : Nat) + 3 < 6; decide⟩
  rintro e w6 ⟨rfl, hch⟩
  have T6 := Lib.hid hch.turn
  have C46 := Lib.hid (show Cs w6 g3 31 (trC (.slice (some ⟨g2, 0, none⟩) 1 1) newT zss).toArray from hch.box)
  have C26 := Lib.hid (show Cs w6 g2 34 (ndC ⟨1, 1, true, 4294967297, [], []⟩ (.slice none 0 0) (.slice none 0 0)).toArray by have h1 := hch.blk g2 _ _ (by have := K2.out; have := G23.out; omega) C25.out; rw [stamp_one] at h1; exact h1)
  clear hch
  have TT := Lib.hid (show Turn w5 w6 (fun q => q = g3 ∨ q = g2) from T6.out.mono fun q _ hq => by rcases hq with hq | ⟨p, hp, hq⟩; exact .inl hq; rw [List.mem_singleton] at hp; subst hp; exact .inr hq)
  have C16 := Lib.hid (C15.out.turn TT.out (by have := K1.out; have := K12.out; have := G12.out; have := G23.out; omega))
  have B6 := Lib.hid (show Below w.heap.size w w6 from (below_chain B4.out B11.out).trans (Turn.below TT.out (below_chain B4.out B11.out).size fun q e => by have := G2.out; have := G3.out; omega))
  have HTR := Lib.hid (show ∀ u, Cs u g2 34 (ndC ⟨1, 1, true, 4294967297, [], []⟩ (.slice none 0 0) (.slice none 0 0)).toArray → TrAt u (w.heap.size ≤ ·) (trC (.slice (some ⟨g2, 0, none⟩) 1 1) newT zss) newT from fun u hu => by
    refine ⟨_, zss, rfl, ⟨_, 1, rfl, .inr ⟨g2, 0, ndC ⟨1, 1, true, 4294967297, [], []⟩ (.slice none 0 0) (.slice none 0 0), rfl, G2.out, ⟨rfl, fun j hj => ?_⟩, fun j v hv => ?_⟩, by decide, by simp [maxLen], by simp⟩, zses u _, rfl, rfl, by decide, by decide, by decide⟩
    · obtain rfl : j = 0 := by have : j < 1 := hj; omega
      exact ⟨_, _, rfl, BsV.nil _ _, LsV.nil _ _, by show (1 : Nat) < _; decide, by show (1 : Nat) < _; decide, by show (4294967297 : Nat) < _; decide⟩
    · rw [Nat.zero_add]
      exact hu.cell j (by simpa using hv))
  go_wp2_with (first
    | ((with_reducible show wpList _ _ _ _ _ w6); refine wpList_loadS rfl 31 _ rfl g3 rfl (trC (.slice (some ⟨g2, 0, none⟩) 1 1) newT zss) C46.out _ Tryd.underlying31 rfl infoTree ?_; go_frame)
    | ((with_reducible show wpList _ _ _ _ _ w6); refine wpList_storeS rfl 31 _ _ rfl g1 rfl (trC (.slice (some ⟨g2, 0, none⟩) 1 1) newT zss) treeZ rfl C16.out rfl (raw_one w6 _ _) infoTree ?_; intro w7 hk2 ht2; go_frame; have C17 := Lib.hid hk2; have T7 := Lib.hid ht2; have C27 := Lib.hid (C26.out.turn ht2 (by have := K1.out; have := G12.out; omega)); clear hk2 ht2)
    | fail)
  refine bodyPost_ret (results_agg (P := Tryd.prog) (p := 0) (ty := 31) rfl _ _ g1 0 (trC (.slice (some ⟨g2, 0, none⟩) 1 1) newT zss) rfl (At.whole C17.out) _ Tryd.underlying31 rfl infoTree) rfl ?_
  exact ⟨_, rfl, HTR.out w7 C27.out, B6.out.trans (T7.out.below B6.out.size fun q e => e ▸ G1.out)⟩

/-! ### isAside -/
set_option maxHeartbeats 8000000 in
theorem isAside_v (t : Tr) (g c i j : Nat) (F : Nat → Prop) (w : World) (hm : MayT t) (hi : i < t.nodes.length) (hj : j < t.nodes.length) (hr : RdX nodeE w F (some ⟨g, 0, none⟩) t.nodes) (q : Bool) (hq : q = true ↔ ¬ Under t.nodes t.nodes[j].ino t.nodes[i].ino) :
    Calls Tryd.prog 58 #[.slice (some ⟨g, 0, none⟩) t.nodes.length c, .pointer (some ⟨g, i * 6, none⟩), .pointer (some ⟨g, j * 6, none⟩)] w fun e w' => AskRet w True (stOf q 9) e w' := by
  have hmix : Tryd.prog.follows .mixedOrders = true := by kernel_rfl
  have HR := Lib.hid hr
  have HM := Lib.hid hm
  have HQ := Lib.hid hq
  have HI := Lib.hid hi
  have HJ := Lib.hid hj
  clear hr hm hq
  go_enter Tryd.func58, Tryd.ntmps58
  go_wp2_with (first
    | ((with_reducible show wpList _ _ _ _ _ w); refine wpList_boxV rfl 23 _ rfl (.slice (some ⟨g, 0, none⟩) t.nodes.length c) rfl rfl ?_; intro g0 w1 hk1 hb1 hg1; go_frame; have C0_1 := Lib.hid hk1; have B1 := Lib.hid hb1; clear hk1 hb1 hg1)
    | ((with_reducible show wpList _ _ _ _ _ w1); refine wpList_boxV rfl 51 _ rfl (.pointer (some ⟨g, i * 6, none⟩)) rfl rfl ?_; intro g1 w2 hk1 hb1 hg1; go_frame; have C1_2 := Lib.hid hk1; have C0_2 := Lib.hid (C0_1.out.below hb1 C0_1.out.lt); have B2 := Lib.hid (below_chain B1.out hb1); clear hk1 hb1 hg1)
    | ((with_reducible show wpList _ _ _ _ _ w2); refine wpList_boxV rfl 51 _ rfl (.pointer (some ⟨g, j * 6, none⟩)) rfl rfl ?_; intro g2 w3 hk1 hb1 hg1; go_frame; have C2_3 := Lib.hid hk1; have C1_3 := Lib.hid (C1_2.out.below hb1 C1_2.out.lt); have C0_3 := Lib.hid (C0_2.out.below hb1 C0_2.out.lt); have B3 := Lib.hid (below_chain B2.out hb1); clear hk1 hb1 hg1)
    | fail)
  refine (unless_v 9 79 #[.pointer (some ⟨g0, 0, none⟩), .pointer (some ⟨g2, 0, none⟩), .pointer (some ⟨g1, 0, none⟩)] w3).mono ?_
  rintro e wz ⟨v, rfl, h1, hv, hb⟩
  have HV := Lib.hid (show True → AskV wz v (stOf q 9) by
    intro hK
    refine hv q (ask_of (enters_of Tryd.func79 (by kernel_rfl) rfl) ?_)
    intro W hW
    have BW := Lib.hid (below_chain B3.out (below_chain hb hW))
    have CW0 := Lib.hid (C0_3.out.below (below_chain hb hW) C0_3.out.lt)
    have CW1 := Lib.hid (C1_3.out.below (below_chain hb hW) C1_3.out.lt)
    have CW2 := Lib.hid (C2_3.out.below (below_chain hb hW) C2_3.out.lt)
    clear hW hv hb h1
    have HRW := Lib.hid (HR.out.below BW.out)
    obtain ⟨dv1, ev1, hat1, -, -, hin1, -⟩ := nd_head HRW.out hi
    obtain ⟨dv2, ev2, hat2, -, -, hin2, -⟩ := nd_head HRW.out hj
    have QI := Lib.hid (show W.cell? ⟨g, i * 6, none⟩ = some (.int .u32 (t.nodes[i].ino : Int)) by have := hat1 0 _ rfl; rw [Nat.zero_add, Nat.add_zero] at this; exact this)
    have QJ := Lib.hid (show W.cell? ⟨g, j * 6, none⟩ = some (.int .u32 (t.nodes[j].ino : Int)) by have := hat2 0 _ rfl; rw [Nat.zero_add, Nat.add_zero] at this; exact this)
    have H32 := Lib.hid hin1
    have HMI := Lib.hid (show t.nodes[j].ino ∈ inosL t.nodes from mem_inos.2 ⟨_, List.getElem_mem hj, rfl⟩)
    clear hat1 hat2 hin1 hin2
    generalize t.nodes[i].ino = x at *
    generalize t.nodes[j].ino = f at *
    go_enter Tryd.func79, Tryd.ntmps79
    go_wp2_with fail
    refine wp_region_V [] (fun u => Below W.heap.size W u) hmix ((Below.refl _ _).drew) ?_
    change wpAnyV _ _ _ _ _ _ _ _ _
    refine wpAnyV_take (i := 0) (v := .slice (some ⟨g, 0, none⟩) t.nodes.length c) 12 (kept_below _) rfl (by kernel_rfl) (by kernel_rfl) (fun _ _ _ h => h) (fun _ h => h) (DoesV.reads (by rfl) fun w9 hS => by have q0 : w9.cell? ⟨g0, 0, none⟩ = some (.slice (some ⟨g, 0, none⟩) t.nodes.length c) := (CW0.out.below hS CW0.out.lt).cell 0 rfl; go_simp) ?_
    try simp only [List.getElem_toArray, List.getElem_cons_succ, List.getElem_cons_zero, Act.put, List.setIfInBounds_toArray, List.set_cons_succ, List.set_cons_zero]
    refine wpAnyV_take (i := 1) (v := .pointer (some ⟨g, j * 6, none⟩)) 12 (kept_below _) rfl (by kernel_rfl) (by kernel_rfl) (fun _ _ _ h => h) (fun _ h => h) (DoesV.reads (by rfl) fun w9 hS => by have q0 : w9.cell? ⟨g2, 0, none⟩ = some (.pointer (some ⟨g, j * 6, none⟩)) := (CW2.out.below hS CW2.out.lt).cell 0 rfl; go_simp) ?_
    try simp only [List.getElem_toArray, List.getElem_cons_succ, List.getElem_cons_zero, Act.put, List.setIfInBounds_toArray, List.set_cons_succ, List.set_cons_zero]
    refine wpAnyV_take (i := 2) (v := .pointer (some ⟨g, j * 6, none⟩)) 12 (kept_below _) rfl (by kernel_rfl) (by kernel_rfl) (fun _ _ _ h => h) (fun _ h => h) (DoesV.reads (by rfl) fun w9 hS => by go_simp) ?_
    try simp only [List.getElem_toArray, List.getElem_cons_succ, List.getElem_cons_zero, Act.put, List.setIfInBounds_toArray, List.set_cons_succ, List.set_cons_zero]
    refine wpAnyV_take (i := 3) (v := .pointer (some ⟨g, j * 6, none⟩)) 12 (kept_below _) rfl (by kernel_rfl) (by kernel_rfl) (fun _ _ _ h => h) (fun _ h => h) (DoesV.reads (by rfl) fun w9 hS => by go_simp) ?_
    try simp only [List.getElem_toArray, List.getElem_cons_succ, List.getElem_cons_zero, Act.put, List.setIfInBounds_toArray, List.set_cons_succ, List.set_cons_zero]
    refine wpAnyV_take (i := 4) (v := .int .u32 (f : Int)) 12 (kept_below _) rfl (by kernel_rfl) (by kernel_rfl) (fun _ _ _ h => h) (fun _ h => h) (DoesV.reads (by rfl) fun w9 hS => by have q0 : w9.cell? ⟨g, j * 6, none⟩ = some (.int .u32 (f : Int)) := (hS.cell (lt_of_cell QJ.out)).trans QJ.out; go_simp) ?_
    try simp only [List.getElem_toArray, List.getElem_cons_succ, List.getElem_cons_zero, Act.put, List.setIfInBounds_toArray, List.set_cons_succ, List.set_cons_zero]
    refine wpAnyV_only (i := 5) rfl (by kernel_rfl) rfl (fun u hS => wp_of_call (f := 80) (args := #[.slice (some ⟨g, 0, none⟩) t.nodes.length c, .int .u32 (f : Int)]) (by go_simp) (under_v t f (some ⟨g, 0, none⟩) c F u HM.out HMI.out (HRW.out.below hS)) fun e u' hu => ?_)
    try simp only [List.getElem_toArray, List.getElem_cons_succ, List.getElem_cons_zero, Act.put, List.setIfInBounds_toArray, List.set_cons_succ, List.set_cons_zero]
    obtain ⟨⟨mb, D, he, hset, hui⟩, hb⟩ := hu
    have HUI := Lib.hid hui
    refine ⟨_, he, fun z => SetIs z mb D ∧ Below W.heap.size W z, ⟨hset, below_chain hS hb⟩, kept_and (fun a b h hb => h.below hb) (kept_below _), fun _ _ h => h.2, ?_⟩
    clear hset hui hb he hS
    try simp only [List.getElem_toArray, List.getElem_cons_succ, List.getElem_cons_zero, Act.put, List.setIfInBounds_toArray, List.set_cons_succ, List.set_cons_zero]
    refine wpAnyV_only (i := 6) rfl (by kernel_rfl) rfl (fun u hS => wp_of_run2 (v := .tuple #[.map (some mb), .bool true]) (by go_simp) ⟨_, hS, kept_and (fun a b h hb => h.below hb) (kept_below _), fun _ _ h => h, ?_⟩)
    try simp only [List.getElem_toArray, List.getElem_cons_succ, List.getElem_cons_zero, Act.put, List.setIfInBounds_toArray, List.set_cons_succ, List.set_cons_zero]
    refine wpAnyV_take (i := 7) (v := .map (some mb)) 12 (kept_and (fun a b h hb => h.below hb) (kept_below _)) rfl (by kernel_rfl) (by kernel_rfl) (fun _ _ _ h => h) (fun _ h => h) (DoesV.reads (by rfl) fun w9 hS => by go_simp) ?_
    try simp only [List.getElem_toArray, List.getElem_cons_succ, List.getElem_cons_zero, Act.put, List.setIfInBounds_toArray, List.set_cons_succ, List.set_cons_zero]
    refine wpAnyV_take (i := 8) (v := .bool true) 12 (kept_and (fun a b h hb => h.below hb) (kept_below _)) rfl (by kernel_rfl) (by kernel_rfl) (fun _ _ _ h => h) (fun _ h => h) (DoesV.reads (by rfl) fun w9 hS => by go_simp) ?_
    try simp only [List.getElem_toArray, List.getElem_cons_succ, List.getElem_cons_zero, Act.put, List.setIfInBounds_toArray, List.set_cons_succ, List.set_cons_zero]
    refine wpAnyV_take (i := 9) (v := .map (some mb)) 12 (kept_and (fun a b h hb => h.below hb) (kept_below _)) rfl (by kernel_rfl) (by kernel_rfl) (fun _ _ _ h => h) (fun _ h => h) (DoesV.reads (by rfl) fun w9 hS => by go_simp) ?_
    try simp only [List.getElem_toArray, List.getElem_cons_succ, List.getElem_cons_zero, Act.put, List.setIfInBounds_toArray, List.set_cons_succ, List.set_cons_zero]
    refine wpAnyV_take (i := 10) (v := .bool true) 12 (kept_and (fun a b h hb => h.below hb) (kept_below _)) rfl (by kernel_rfl) (by kernel_rfl) (fun _ _ _ h => h) (fun _ h => h) (DoesV.reads (by rfl) fun w9 hS => by go_simp) ?_
    try simp only [List.getElem_toArray, List.getElem_cons_succ, List.getElem_cons_zero, Act.put, List.setIfInBounds_toArray, List.set_cons_succ, List.set_cons_zero]
    refine wpAnyV_done (by kernel_rfl) (fun wz1 hz => ?_) _
    have SW := Lib.hid hz.1
    have BZ := Lib.hid hz.2
    clear hz
    have q1 : wz1.cell? ⟨g1, 0, none⟩ = some (.pointer (some ⟨g, i * 6, none⟩)) := (CW1.out.below BZ.out CW1.out.lt).cell 0 rfl
    have qi : wz1.cell? ⟨g, i * 6, none⟩ = some (.int .u32 (x : Int)) := (BZ.out.cell (lt_of_cell QI.out)).trans QI.out
    have hdq : decide (x ∈ D) = !q := by
      have h1 := HUI.out.over x
      cases q
      · exact decide_eq_true (h1.2 (Classical.byContradiction fun hh => by have := HQ.out.2 hh; cases this))
      · exact decide_eq_false fun hh => HQ.out.1 rfl (h1.1 hh)
    have HDQ := Lib.hid hdq
    clear hdq
    go_wp2_with (first
      | ((with_reducible show wpList _ _ _ _ _ wz1); refine wpList_setHas rfl _ _ rfl mb D rfl SW.out x H32.out rfl (!q) HDQ.out ?_; go_frame)
      | fail)
    cases q
    · go_ret
      exact ⟨by first | rfl | simp, below_chain BZ.out ((Below.refl _ _).alloc (Nat.le_refl _) _)⟩
    · go_ret
      exact ⟨by first | rfl | simp, below_chain BZ.out ((Below.refl _ _).alloc (Nat.le_refl _) _)⟩)
  have OV := Lib.hid h1
  have BZ := Lib.hid (below_chain B3.out hb)
  clear h1 hv hb
  go_wp2_with fail
  go_ret
  exact ⟨v, by first | rfl | simp, OV.out, HV.out, BZ.out⟩

end Go.Proofs.YtenpmbfncnepgaaDoor

/- The program: Rename, what its statuses and lists come to. -/
namespace Go.Proofs.YtenpmbfncnepgaaDoor
open Go.RowKit Go.Shelf
set_option linter.unusedVariables false
set_option maxRecDepth 100000
set_option linter.unusedSimpArgs false

/-- beneath a file is nothing -/
theorem under_file {t : Tr} (hm : MayT t) {a : Nd} (ha : a ∈ t.nodes) (hn : a.names = []) {x : Nat} (h : Under t.nodes a.ino x) : x = a.ino := by
  induction h with
  | here => rfl
  | @step n e hn1 he _ ih =>
    rw [sort_one hm.rise hn1 ha ih, hn] at he
    cases he
/-- the first chain -/
def ren1 (t : Tr) (h : Nat × Nat) (nm : Key) (to : Nat × Nat) (k : Key) : Nat :=
  orS 0 (orS (stOf (findT t.nodes h).isSome 1) (orS (stOf (findT t.nodes to).isSome 1) (orS (kindS (findT t.nodes h) true) (orS (kindS (findT t.nodes to) true) (orS (stOf (nameL nm) 8) (orS (stOf (nameL k) 8) (orS (stOf (namedT t.nodes (findT t.nodes h) nm).isSome 2) 0)))))))
/-- .. the second one -/
def ren2 (t : Tr) (d1 d2 o : Option Nd) (M : Nd) (q : Bool) : Nat :=
  orS (kindS o M.dir) (orS (stOf (emptyO o) 6) (orS (stOf q 9) (orS (stOf (roomB d2 d1 o) 7) (orS (stOf (decide (t.count < 2147483648)) 7) 0))))
theorem ren1_is {t : Tr} (hm : MayT t) (h : Nat × Nat) (nm : Key) (to : Nat × Nat) (k : Key) : (ren1 t h nm to k ≠ 0 → renameT t h nm to k = (t, ren1 t h nm to k)) ∧
    (ren1 t h nm to k = 0 → ∃ D1 D2 M, findT t.nodes h = some D1 ∧ findT t.nodes to = some D2 ∧ D1.dir = true ∧ D2.dir = true ∧ nameL nm = true ∧ nameL k = true ∧ inE D1.names nm = some M.ino ∧ (nm, M.ino) ∈ D1.names ∧ M ∈ t.nodes ∧ nodeT t.nodes M.ino = some M ∧ namedT t.nodes (findT t.nodes h) nm = some M) := by
  unfold ren1 renameT
  rw [if_pos hm]
  cases hd1 : findT t.nodes h with
  | none => simp [orS, stOf]
  | some D1 =>
    have hmem := ((findT_some hm.rise).1 hd1).1
    cases hd2 : findT t.nodes to with
    | none => simp [orS, stOf]
    | some D2 =>
      cases k1 : D1.dir
      · simp [orS, stOf, kindS, k1]
      · cases k2 : D2.dir
        · simp [orS, stOf, kindS, k1, k2]
        · cases n1 : nameL nm
          · simp [orS, stOf, kindS, k1, k2, n1]
          · cases n2 : nameL k
            · simp [orS, stOf, kindS, k1, k2, n1, n2]
            · cases hx : inE D1.names nm with
              | none => simp [orS, stOf, kindS, k1, k2, n1, n2, namedT, hx]
              | some x =>
                obtain ⟨M, h1, h2, h3, h4⟩ := named_some hm hmem hx
                subst h3
                refine ⟨fun hh => ?_, fun _ => ⟨D1, D2, M, rfl, rfl, k1, k2, rfl, rfl, hx, h4, h2, h1, ?_⟩⟩
                · exact absurd (by simp [orS, stOf, kindS, k1, k2, namedT, hx, h1]) hh
                · simp [namedT, hx, h1]
theorem ren2_is {t : Tr} (hm : MayT t) {h : Nat × Nat} {nm : Key} {to : Nat × Nat} {k : Key} {D1 D2 M : Nd} (hd1 : findT t.nodes h = some D1) (hd2 : findT t.nodes to = some D2) (k1 : D1.dir = true) (k2 : D2.dir = true) (n1 : nameL nm = true) (n2 : nameL k = true) (hx : inE D1.names nm = some M.ino) (hM : M ∈ t.nodes) (hMn : nodeT t.nodes M.ino = some M)
    {o : Option Nd} (ho : namedT t.nodes (some D2) k = o) {q : Bool} (hq : q = true ↔ ¬ Under t.nodes M.ino D2.ino) :
    (o = some M → renameT t h nm to k = (t, 0)) ∧ (o ≠ some M → (ren2 t (some D1) (some D2) o M q ≠ 0 → renameT t h nm to k = (t, ren2 t (some D1) (some D2) o M q)) ∧
    (ren2 t (some D1) (some D2) o M q = 0 → renameT t h nm to k = (renamedT t h.1 nm to.1 k M.ino (o.map (·.ino)), 0) ∧ t.count < 2147483648 ∧ inE D2.names k = o.map (·.ino) ∧ emptyO o = true ∧ ∀ b, o = some b → b.ino ≠ M.ino)) := by
  have hI1 : D1.ino = h.1 := ((findT_some hm.rise).1 hd1).2.1
  have hI2 : D2.ino = to.1 := ((findT_some hm.rise).1 hd2).2.1
  have hmem2 := ((findT_some hm.rise).1 hd2).1
  have hun : (M.dir = true ∧ Under t.nodes M.ino to.1) ↔ q = false := by
    rw [← hI2]
    constructor
    · rintro ⟨-, hu⟩
      cases q
      · rfl
      · exact absurd hu (hq.1 rfl)
    · intro e
      have hu : Under t.nodes M.ino D2.ino := Classical.byContradiction fun hh => by rw [hq.2 hh] at e; cases e
      refine ⟨?_, hu⟩
      cases hmd : M.dir
      · have e1 := under_file hm hM ((hm.ok M hM).file hmd) hu
        rw [sort_one hm.rise hmem2 hM e1, hmd] at k2
        cases k2
      · rfl
  unfold renameT
  rw [if_pos hm, hd1, hd2]
  simp only [k1, k2, n1, n2, hx, hMn, Bool.true_eq_false, or_self, if_false]
  cases hy : inE D2.names k with
  | none =>
    have ho' : o = none := by rw [← ho]; simp [namedT, hy]
    subst ho'
    have e1 : ontoS t.nodes M M.ino none = 0 := rfl
    have hr : roomB (some D2) (some D1) none = !decide (h.1 ≠ to.1 ∧ 32 ≤ D2.names.length) := by
      unfold roomB
      by_cases c1 : to.1 = h.1
      · simp [hI1, hI2, c1]
      · have c1' : ¬ h.1 = to.1 := fun e => c1 e.symm
        by_cases c2 : D2.names.length < 32
        · have c2' : ¬ 32 ≤ D2.names.length := by omega
          simp [hI1, hI2, c1, c1', c2, c2']
        · have c2' : 32 ≤ D2.names.length := by omega
          simp [hI1, hI2, c1, c1', c2, c2']
    refine ⟨fun e => (by cases e), fun _ => ⟨fun hh => ?_, fun hh => ?_⟩⟩
    · unfold ren2 at hh ⊢
      rw [hr] at hh ⊢
      cases q
      · have hu := hun.2 rfl
        simp [orS, stOf, kindS, emptyO, e1, hu]
      · have hu : ¬ (M.dir = true ∧ Under t.nodes M.ino to.1) := fun e => by have := hun.1 e; cases this
        by_cases c3 : h.1 ≠ to.1 ∧ 32 ≤ D2.names.length
        · rw [decide_eq_true c3] at hh ⊢
          simp only [e1, hu, c3]
          simp [orS, stOf, kindS, emptyO]
          exact fun e => absurd e c3.1
        · rw [decide_eq_false c3] at hh ⊢
          by_cases c4 : t.count < 2147483648
          · exact absurd (by simp [orS, stOf, kindS, emptyO, c4]) hh
          · have c4' : 2147483648 ≤ t.count := by omega
            simp only [e1, hu, c4', or_true, if_true]
            simp [orS, stOf, kindS, emptyO, c4]
    · unfold ren2 at hh
      rw [hr] at hh
      cases q
      · exact absurd hh (by simp [orS, stOf, kindS, emptyO])
      · have hu : ¬ (M.dir = true ∧ Under t.nodes M.ino to.1) := fun e => by have := hun.1 e; cases this
        by_cases c3 : h.1 ≠ to.1 ∧ 32 ≤ D2.names.length
        · rw [decide_eq_true c3] at hh
          exact absurd hh (by simp [orS, stOf, kindS, emptyO])
        · by_cases c4 : t.count < 2147483648
          · have c4' : ¬ 2147483648 ≤ t.count := by omega
            have c5 : ¬ (((none : Option Nat) = none ∧ h.1 ≠ to.1 ∧ 32 ≤ D2.names.length) ∨ 2147483648 ≤ t.count) := fun e => e.elim (fun e => c3 e.2) c4'
            refine ⟨?_, c4, rfl, rfl, fun b e => (by cases e)⟩
            rw [if_neg (by rw [e1]; simp), if_neg (by simp), if_neg hu, if_neg (by simpa using c5)]
            rfl
          · rw [decide_eq_false c3] at hh
            exact absurd hh (by simp [orS, stOf, kindS, emptyO, c4])
  | some y =>
    obtain ⟨b, h1, h2, h3, h4⟩ := named_some hm hmem2 hy
    have ho' : o = some b := by rw [← ho]; simp [namedT, hy, h1]
    subst ho'
    subst h3
    have hr : roomB (some D2) (some D1) (some b) = true := by simp [roomB]
    refine ⟨fun e => ?_, fun hne => ?_⟩
    · injection e with e
      subst e
      simp [ontoS]
    · have hbm : b.ino ≠ M.ino := fun e => hne (by rw [sort_one hm.rise h2 hM e])
      simp only [hun]
      unfold ren2
      rw [hr]
      by_cases c4 : t.count < 2147483648
      · have c4' : ¬ 2147483648 ≤ t.count := by omega
        cases c1 : M.dir <;> cases c2 : b.dir <;> cases c3 : b.names <;> cases q <;> simp [ontoS, hbm, h1, orS, stOf, kindS, emptyO, c1, c2, c3, c4, c4']
      · have c4' : 2147483648 ≤ t.count := by omega
        cases c1 : M.dir <;> cases c2 : b.dir <;> cases c3 : b.names <;> cases q <;> simp [ontoS, hbm, h1, orS, stOf, kindS, emptyO, c1, c2, c3, c4, c4']

end Go.Proofs.YtenpmbfncnepgaaDoor
