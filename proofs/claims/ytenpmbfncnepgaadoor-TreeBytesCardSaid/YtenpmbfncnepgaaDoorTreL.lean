/- Layer 13's laws' lives: it is true. -/
import Derived.Test.YtenpmbfncnepgaaDoorSlB
import Derived.Test.YtenpmbfncnepgaaDoorTreEK
namespace Go.Proofs.YtenpmbfncnepgaaDoor
open Go.RowKit Go.Shelf
set_option linter.unusedVariables false
set_option maxRecDepth 100000
set_option linter.unusedSimpArgs false

set_option maxHeartbeats 16000000 in
theorem lives13_v (K : K13) (w : World) (hT : Tabs w) : Calls Tryd.prog 10 #[] w fun e w' => e = .returned (.bool true) ∧ Below w.heap.size w w' := by
  have HK := Lib.hid K
  have HT := Lib.hid hT
  have hmix : Tryd.prog.follows .mixedOrders = true := by kernel_rfl
  clear K hT
  go_enter Tryd.func10, Tryd.ntmps10
  go_wp2_with fail
  refine (HK.out.new w).mono ?_
  rintro e w1 ⟨c0, rfl, ht, hb⟩
  have T0 := Lib.hid (TrAt.mono (G := fun _ => True) ht fun _ _ _ => trivial)
  have K0_1 := Lib.hid (hb)
  clear ht hb
  go_wp2_with fail
  refine (root_v w1).mono ?_
  rintro e w2 ⟨rfl, hb⟩
  have K0_2 := Lib.hid (below_chain K0_1.out hb)
  have Kn_2 := Lib.hid (hb)
  clear hb
  go_wp2_with fail
  have hm := HK.out.make newT c0 (1, 1) nmA false (fun _ => True) w2 (HT.out.below K0_2.out) (T0.out.below Kn_2.out) ⟨by decide, by decide⟩ may_new
  rw [make_file name_a] at hm
  refine hm.mono ?_
  clear hm
  rintro e w3 ⟨ts, ns, rfl, ht, hn, hb⟩
  have TA := Lib.hid (show TrAt w3 (· < w3.heap.size) ts (fileT nmA) from ht.mono fun k hk _ => hk)
  have NA := Lib.hid (show NdAt w3 (· < w3.heap.size) ns (newN newT false) from hn.mono fun k hk _ => hk)
  have K0_3 := Lib.hid (below_chain K0_2.out hb)
  have Kn_3 := Lib.hid (below_chain Kn_2.out hb)
  clear ht hn hb
  go_wp2_with (first
    | ((with_reducible show wpList _ _ _ _ _ w3); refine wpList_allocS rfl 31 rfl treeZ treeZero ?_; intro ga w4 hk1 hb1 hg1; go_frame; have C4 := Lib.hid hk1; have B4 := Lib.hid hb1; have G4 := Lib.hid hg1; clear hk1 hb1 hg1)
    | ((with_reducible show wpList _ _ _ _ _ w4); refine wpList_allocS rfl 34 rfl nodeZ nodeZero ?_; intro gn w5 hk1 hb1 hg1; go_frame; have C5 := Lib.hid hk1; have B5 := Lib.hid hb1; have G5 := Lib.hid hg1; have C45 := Lib.hid (C4.out.below hb1 C4.out.lt); clear hk1 hb1 hg1)
    | ((with_reducible show wpList _ _ _ _ _ w5); refine wpList_storeS rfl 31 _ _ rfl ga rfl ts treeZ rfl C45.out (by rw [TA.out.len]; rfl) TA.out.one (by rw [TA.out.len]; exact infoTree) ?_; intro w6 hk2 ht2; go_frame; have C6 := Lib.hid hk2; have C56 := Lib.hid (C5.out.turn ht2 (by have := G5.out; have := C4.out.lt; omega)); have D6 := Lib.hid ht2; clear hk2 ht2)
    | ((with_reducible show wpList _ _ _ _ _ w6); refine wpList_storeS rfl 34 _ _ rfl gn rfl ns nodeZ rfl C56.out (by rw [NA.out.len]; rfl) NA.out.one (by rw [NA.out.len]; exact infoNode) ?_; intro w7 hk2 ht2; go_frame; have C7 := Lib.hid hk2; have C67 := Lib.hid (C6.out.turn ht2 (by have := G5.out; have := C4.out.lt; omega)); have B7 := Lib.hid (show Below w3.heap.size w3 w7 from below_turn (below_turn (below_chain B4.out B5.out) D6.out (below_chain B4.out B5.out).size G4.out) ht2 (Nat.le_trans (below_chain B4.out B5.out).size D6.out.size) (Nat.le_trans B4.out.size G5.out)); clear hk2 ht2)
    | fail)
  have K0_4 := Lib.hid (below_chain K0_3.out B7.out)
  have Kn_4 := Lib.hid (below_chain Kn_3.out B7.out)
  have Ka_4 := Lib.hid (B7.out)
  refine code_cut (fun a a1 u => ∃ (gx : Nat) (ds : List Value), Below w7.heap.size w7 u ∧ Cs u gx 34 ds.toArray ∧ NdAt u (· < u.heap.size) ds ⟨2, 2, false, 4294967298, [], []⟩ ∧ a1 = ((((((((a.put (some 29) (.agg ts.toArray)).put (some 30) (.agg (hdC (1, 1)).toArray)).put (some 31) (.tuple #[.agg ds.toArray, .int .u8 0])).put (some 28) (.tuple #[.agg ds.toArray, .int .u8 0])).put (some 32) (.agg ds.toArray)).put (some 33) (.int .u8 0)).put (some 4) (.pointer (some ⟨gx, 0, none⟩))).put (some 5) (.int .u8 0))) ?_ ?_
  · refine wp_region_V [7] (Below w7.heap.size w7) hmix ((Below.refl _ _).drew) ?_
    change wpAnyV _ _ _ _ _ _ _ _ _
    refine wpAnyV_take (i := 0) (v := .agg ts.toArray) 8 (kept_below w7) rfl (by kernel_rfl) (by kernel_rfl) (fun _ _ _ h => by cases h.1) (fun _ h => h) (DoesV.loadT (by rfl) 31 _ rfl ga 0 rfl ts (fun w9 hS => At.whole ((C67.out.below (Below.refl _ _) C67.out.lt).below hS (C67.out.below (Below.refl _ _) C67.out.lt).lt)) _ Tryd.underlying31 rfl (by rw [TA.out.len]; exact infoTree)) ?_
    try simp only [List.getElem_toArray, List.getElem_cons_succ, List.getElem_cons_zero, Act.put, List.setIfInBounds_toArray, List.set_cons_succ, List.set_cons_zero]
    refine wpAnyV_take (i := 1) (v := .agg (hdC (1, 1)).toArray) 8 (kept_below w7) rfl (by kernel_rfl) (by kernel_rfl) (fun _ _ _ h => by cases h.1) (fun _ h => h) (DoesV.calls 6 #[] (by rfl) (fun w9 hS => by go_simp) (fun w9 hS => root_v w9)) ?_
    try simp only [List.getElem_toArray, List.getElem_cons_succ, List.getElem_cons_zero, Act.put, List.setIfInBounds_toArray, List.set_cons_succ, List.set_cons_zero]
    refine wpAnyV_all (l := [2, 6]) (by kernel_rfl) (by decide) (fun i hi y2_1 hy => ?_)
    simp only [List.mem_cons, List.not_mem_nil, or_false] at hi
    rcases hi with rfl | rfl
    · refine wpOp_at rfl rfl ?_
      refine wp_of_call (f := 31) (args := #[.agg ts.toArray, .agg (hdC (1, 1)).toArray, .string ⟨#[97]⟩]) (by go_simp) ((by have h := HK.out.lookup (fileT nmA) ts (1, 1) nmA (· < w7.heap.size) y2_1 (HT.out.below (below_chain K0_4.out hy)) (((TA.out.below Ka_4.out).below hy).mono fun k _ hk => Nat.lt_of_lt_of_le hk Ka_4.out.size) ⟨by decide, by decide⟩ may_a; rw [look_a] at h; exact h)) fun e u2_2 hu => ?_
      obtain ⟨ds, rfl, hn, hb⟩ := hu
      have HYs_u2_2 := Lib.hid (show w7.heap.size ≤ y2_1.heap.size from hy.size)
      refine ⟨_, rfl, fun u => Below w7.heap.size w7 u ∧ NdAt u (Gap w7 y2_1 u2_2) ds ⟨2, 2, false, 4294967298, [], []⟩ ∧ u2_2.heap.size ≤ u.heap.size, ⟨below_chain hy hb, hn.gap, Nat.le_refl _⟩, kept_and (kept_below w7) (kept_and (kept_nd (Gap w7 y2_1 u2_2) ds ⟨2, 2, false, 4294967298, [], []⟩) (kept_size u2_2.heap.size)), fun _ u h => h.1, ?_⟩
      try simp only [List.getElem_toArray, List.getElem_cons_succ, List.getElem_cons_zero, Act.put, List.setIfInBounds_toArray, List.set_cons_succ, List.set_cons_zero]
      refine wpAnyV_pure (i := 3) (v := .tuple #[.agg ds.toArray, .int .u8 0]) (kept_and (kept_below w7) (kept_and (kept_nd (Gap w7 y2_1 u2_2) ds ⟨2, 2, false, 4294967298, [], []⟩) (kept_size u2_2.heap.size))) rfl (by kernel_rfl) (by kernel_rfl) (fun _ _ _ h => by cases h.1) (DoesV.reads (by rfl) fun w9 hS => by go_simp) ?_
      try simp only [List.getElem_toArray, List.getElem_cons_succ, List.getElem_cons_zero, Act.put, List.setIfInBounds_toArray, List.set_cons_succ, List.set_cons_zero]
      refine wpAnyV_pure (i := 4) (v := .agg ds.toArray) (kept_and (kept_below w7) (kept_and (kept_nd (Gap w7 y2_1 u2_2) ds ⟨2, 2, false, 4294967298, [], []⟩) (kept_size u2_2.heap.size))) rfl (by kernel_rfl) (by kernel_rfl) (fun _ _ _ h => by cases h.1) (DoesV.reads (by rfl) fun w9 hS => by go_simp) ?_
      try simp only [List.getElem_toArray, List.getElem_cons_succ, List.getElem_cons_zero, Act.put, List.setIfInBounds_toArray, List.set_cons_succ, List.set_cons_zero]
      refine wpAnyV_pure (i := 5) (v := .int .u8 0) (kept_and (kept_below w7) (kept_and (kept_nd (Gap w7 y2_1 u2_2) ds ⟨2, 2, false, 4294967298, [], []⟩) (kept_size u2_2.heap.size))) rfl (by kernel_rfl) (by kernel_rfl) (fun _ _ _ h => by cases h.1) (DoesV.reads (by rfl) fun w9 hS => by go_simp) ?_
      try simp only [List.getElem_toArray, List.getElem_cons_succ, List.getElem_cons_zero, Act.put, List.setIfInBounds_toArray, List.set_cons_succ, List.set_cons_zero]
      refine wpAnyV_all (l := [6]) (by kernel_rfl) (by decide) (fun i hi y2_3 hy => ?_)
      simp only [List.mem_cons, List.not_mem_nil, or_false] at hi
      subst hi
      refine wpOp_at rfl rfl ?_
      refine wp_allocS 34 rfl nodeZ nodeZero (fun gx u2_4 hk hb hg => ?_)
      have HGw_gx := Lib.hid (show w7.heap.size ≤ gx from Nat.le_trans hy.1.size hg)
      have HGa_gx := Lib.hid (show u2_2.heap.size ≤ gx from Nat.le_trans hy.2.2 hg)
      refine ⟨fun u => Below w7.heap.size w7 u ∧ NdAt u (Gap w7 y2_1 u2_2) ds ⟨2, 2, false, 4294967298, [], []⟩ ∧ u2_2.heap.size ≤ u.heap.size ∧ Cs u gx 34 nodeZ.toArray, ⟨below_chain hy.1 hb, (kept_nd (Gap w7 y2_1 u2_2) ds ⟨2, 2, false, 4294967298, [], []⟩) y2_3 u2_4 hy.2.1 hb, (kept_size u2_2.heap.size) y2_3 u2_4 hy.2.2 hb, hk⟩, kept_and (kept_below w7) (kept_and (kept_nd (Gap w7 y2_1 u2_2) ds ⟨2, 2, false, 4294967298, [], []⟩) (kept_and (kept_size u2_2.heap.size) (kept_cs _ _ _))), fun _ u h => ⟨h.1, h.2.1, h.2.2.1⟩, ?_⟩
      try simp only [List.getElem_toArray, List.getElem_cons_succ, List.getElem_cons_zero, Act.put, List.setIfInBounds_toArray, List.set_cons_succ, List.set_cons_zero]
      refine wpAnyV_all (l := [7]) (by kernel_rfl) (by decide) (fun i hi y2_5 hy => ?_)
      simp only [List.mem_cons, List.not_mem_nil, or_false] at hi
      subst hi
      refine wpOp_at rfl rfl ?_
      refine wp_storeW 34 _ _ rfl gx rfl ds nodeZ rfl hy.2.2.2 (by rw [hy.2.1.len]; rfl) (hy.2.1.one) (by rw [hy.2.1.len]; exact infoNode) (fun u2_6 hk ht => ?_)
      refine ⟨fun u => Below w7.heap.size w7 u ∧ NdAt u (Gap w7 y2_1 u2_2) ds ⟨2, 2, false, 4294967298, [], []⟩ ∧ u2_2.heap.size ≤ u.heap.size ∧ Cs u gx 34 ds.toArray, ⟨below_turn hy.1 ht hy.1.size HGw_gx.out, hy.2.1.turn ht (fun k hk2 e => by subst e; obtain ⟨h1, h2⟩ := hk2; have h3 := HGw_gx.out; have := HGa_gx.out; omega), Nat.le_trans hy.2.2.1 ht.size, hk⟩, kept_and (kept_below w7) (kept_and (kept_nd (Gap w7 y2_1 u2_2) ds ⟨2, 2, false, 4294967298, [], []⟩) (kept_and (kept_size u2_2.heap.size) (kept_cs _ _ _))), fun hn => (hn (by decide)).elim, ?_⟩
      try simp only [List.getElem_toArray, List.getElem_cons_succ, List.getElem_cons_zero, Act.put, List.setIfInBounds_toArray, List.set_cons_succ, List.set_cons_zero]
      refine wpAnyV_pure (i := 8) (v := .int .u8 0) (kept_and (kept_below w7) (kept_and (kept_nd (Gap w7 y2_1 u2_2) ds ⟨2, 2, false, 4294967298, [], []⟩) (kept_and (kept_size u2_2.heap.size) (kept_cs _ _ _)))) rfl (by kernel_rfl) (by kernel_rfl) (fun _ _ _ h => by cases h.1) (DoesV.reads (by rfl) fun w9 hS => by go_simp) ?_
      try simp only [List.getElem_toArray, List.getElem_cons_succ, List.getElem_cons_zero, Act.put, List.setIfInBounds_toArray, List.set_cons_succ, List.set_cons_zero]
      exact wpAnyV_done (by kernel_rfl) (fun z hz => ⟨rfl, gx, ds, hz.1, hz.2.2.2, hz.2.1.mono (fun k hk _ => hk), rfl⟩) _
    · refine wpOp_at rfl rfl ?_
      refine wp_allocS 34 rfl nodeZ nodeZero (fun gx u2_7 hk hb hg => ?_)
      have HGw_gx := Lib.hid (show w7.heap.size ≤ gx from Nat.le_trans hy.size hg)
      refine ⟨fun u => Below w7.heap.size w7 u ∧ Cs u gx 34 nodeZ.toArray, ⟨below_chain hy hb, hk⟩, kept_and (kept_below w7) (kept_cs _ _ _), fun _ u h => h.1, ?_⟩
      try simp only [List.getElem_toArray, List.getElem_cons_succ, List.getElem_cons_zero, Act.put, List.setIfInBounds_toArray, List.set_cons_succ, List.set_cons_zero]
      refine wpAnyV_all (l := [2]) (by kernel_rfl) (by decide) (fun i hi y2_8 hy => ?_)
      simp only [List.mem_cons, List.not_mem_nil, or_false] at hi
      subst hi
      refine wpOp_at rfl rfl ?_
      refine wp_of_call (f := 31) (args := #[.agg ts.toArray, .agg (hdC (1, 1)).toArray, .string ⟨#[97]⟩]) (by go_simp) ((by have h := HK.out.lookup (fileT nmA) ts (1, 1) nmA (· < w7.heap.size) y2_8 (HT.out.below (below_chain K0_4.out hy.1)) (((TA.out.below Ka_4.out).below hy.1).mono fun k _ hk => Nat.lt_of_lt_of_le hk Ka_4.out.size) ⟨by decide, by decide⟩ may_a; rw [look_a] at h; exact h)) fun e u2_9 hu => ?_
      obtain ⟨ds, rfl, hn, hb⟩ := hu
      have HYs_u2_9 := Lib.hid (show w7.heap.size ≤ y2_8.heap.size from hy.1.size)
      have HGb_gx := Lib.hid (show gx < y2_8.heap.size from hy.2.lt)
      refine ⟨_, rfl, fun u => Below w7.heap.size w7 u ∧ Cs u gx 34 nodeZ.toArray ∧ NdAt u (Gap w7 y2_8 u2_9) ds ⟨2, 2, false, 4294967298, [], []⟩ ∧ u2_9.heap.size ≤ u.heap.size, ⟨below_chain hy.1 hb, (kept_cs _ _ _) y2_8 u2_9 hy.2 hb, hn.gap, Nat.le_refl _⟩, kept_and (kept_below w7) (kept_and (kept_cs _ _ _) (kept_and (kept_nd (Gap w7 y2_8 u2_9) ds ⟨2, 2, false, 4294967298, [], []⟩) (kept_size u2_9.heap.size))), fun _ u h => ⟨h.1, h.2.1⟩, ?_⟩
      try simp only [List.getElem_toArray, List.getElem_cons_succ, List.getElem_cons_zero, Act.put, List.setIfInBounds_toArray, List.set_cons_succ, List.set_cons_zero]
      refine wpAnyV_pure (i := 3) (v := .tuple #[.agg ds.toArray, .int .u8 0]) (kept_and (kept_below w7) (kept_and (kept_cs _ _ _) (kept_and (kept_nd (Gap w7 y2_8 u2_9) ds ⟨2, 2, false, 4294967298, [], []⟩) (kept_size u2_9.heap.size)))) rfl (by kernel_rfl) (by kernel_rfl) (fun _ _ _ h => by cases h.1) (DoesV.reads (by rfl) fun w9 hS => by go_simp) ?_
      try simp only [List.getElem_toArray, List.getElem_cons_succ, List.getElem_cons_zero, Act.put, List.setIfInBounds_toArray, List.set_cons_succ, List.set_cons_zero]
      refine wpAnyV_pure (i := 4) (v := .agg ds.toArray) (kept_and (kept_below w7) (kept_and (kept_cs _ _ _) (kept_and (kept_nd (Gap w7 y2_8 u2_9) ds ⟨2, 2, false, 4294967298, [], []⟩) (kept_size u2_9.heap.size)))) rfl (by kernel_rfl) (by kernel_rfl) (fun _ _ _ h => by cases h.1) (DoesV.reads (by rfl) fun w9 hS => by go_simp) ?_
      try simp only [List.getElem_toArray, List.getElem_cons_succ, List.getElem_cons_zero, Act.put, List.setIfInBounds_toArray, List.set_cons_succ, List.set_cons_zero]
      refine wpAnyV_pure (i := 5) (v := .int .u8 0) (kept_and (kept_below w7) (kept_and (kept_cs _ _ _) (kept_and (kept_nd (Gap w7 y2_8 u2_9) ds ⟨2, 2, false, 4294967298, [], []⟩) (kept_size u2_9.heap.size)))) rfl (by kernel_rfl) (by kernel_rfl) (fun _ _ _ h => by cases h.1) (DoesV.reads (by rfl) fun w9 hS => by go_simp) ?_
      try simp only [List.getElem_toArray, List.getElem_cons_succ, List.getElem_cons_zero, Act.put, List.setIfInBounds_toArray, List.set_cons_succ, List.set_cons_zero]
      refine wpAnyV_all (l := [7]) (by kernel_rfl) (by decide) (fun i hi y2_10 hy => ?_)
      simp only [List.mem_cons, List.not_mem_nil, or_false] at hi
      subst hi
      refine wpOp_at rfl rfl ?_
      refine wp_storeW 34 _ _ rfl gx rfl ds nodeZ rfl hy.2.1 (by rw [hy.2.2.1.len]; rfl) (hy.2.2.1.one) (by rw [hy.2.2.1.len]; exact infoNode) (fun u2_11 hk ht => ?_)
      refine ⟨fun u => Below w7.heap.size w7 u ∧ NdAt u (Gap w7 y2_8 u2_9) ds ⟨2, 2, false, 4294967298, [], []⟩ ∧ u2_9.heap.size ≤ u.heap.size ∧ Cs u gx 34 ds.toArray, ⟨below_turn hy.1 ht hy.1.size HGw_gx.out, hy.2.2.1.turn ht (fun k hk2 e => by subst e; obtain ⟨h1, h2⟩ := hk2; have h3 := HGw_gx.out; have := HGb_gx.out; omega), Nat.le_trans hy.2.2.2 ht.size, hk⟩, kept_and (kept_below w7) (kept_and (kept_nd (Gap w7 y2_8 u2_9) ds ⟨2, 2, false, 4294967298, [], []⟩) (kept_and (kept_size u2_9.heap.size) (kept_cs _ _ _))), fun hn => (hn (by decide)).elim, ?_⟩
      try simp only [List.getElem_toArray, List.getElem_cons_succ, List.getElem_cons_zero, Act.put, List.setIfInBounds_toArray, List.set_cons_succ, List.set_cons_zero]
      refine wpAnyV_pure (i := 8) (v := .int .u8 0) (kept_and (kept_below w7) (kept_and (kept_nd (Gap w7 y2_8 u2_9) ds ⟨2, 2, false, 4294967298, [], []⟩) (kept_and (kept_size u2_9.heap.size) (kept_cs _ _ _)))) rfl (by kernel_rfl) (by kernel_rfl) (fun _ _ _ h => by cases h.1) (DoesV.reads (by rfl) fun w9 hS => by go_simp) ?_
      try simp only [List.getElem_toArray, List.getElem_cons_succ, List.getElem_cons_zero, Act.put, List.setIfInBounds_toArray, List.set_cons_succ, List.set_cons_zero]
      exact wpAnyV_done (by kernel_rfl) (fun z hz => ⟨rfl, gx, ds, hz.1, hz.2.2.2, hz.2.1.mono (fun k hk _ => hk), rfl⟩) _
  rintro a1 w8 ⟨gx, ds, hb, hc, hn, rfl⟩
  try simp only [List.getElem_toArray, List.getElem_cons_succ, List.getElem_cons_zero, Act.put, List.setIfInBounds_toArray, List.set_cons_succ, List.set_cons_zero]
  have CX := Lib.hid hc
  have NX := Lib.hid hn
  have K0_5 := Lib.hid (below_chain K0_4.out hb)
  have Kn_5 := Lib.hid (below_chain Kn_4.out hb)
  have Ka_5 := Lib.hid (below_chain Ka_4.out hb)
  have Kb_5 := Lib.hid (hb)
  clear hb hc hn
  go_wp2_with fail
  refine code_cut (fun a a1 u => ∃ (g3 h3 : Nat) (t3 d3 : List Value), Below w8.heap.size w8 u ∧ a1 = ((((((((((a.put (some 35) (.agg ts.toArray)).put (some 36) (.agg (hdC (1, 1)).toArray)).put (some 37) (.tuple #[.agg t3.toArray, .agg d3.toArray, .int .u8 3])).put (some 34) (.tuple #[.agg t3.toArray, .agg d3.toArray, .int .u8 3])).put (some 38) (.agg t3.toArray)).put (some 39) (.agg d3.toArray)).put (some 40) (.int .u8 3)).put (some 6) (.pointer (some ⟨g3, 0, none⟩))).put (some 7) (.pointer (some ⟨h3, 0, none⟩))).put (some 8) (.int .u8 3))) ?_ ?_
  · refine wp_region_V [9, 10] (Below w8.heap.size w8) hmix ((Below.refl _ _).drew) ?_
    change wpAnyV _ _ _ _ _ _ _ _ _
    refine wpAnyV_take (i := 0) (v := .agg ts.toArray) 8 (kept_below w8) rfl (by kernel_rfl) (by kernel_rfl) (fun _ _ _ h => by cases h.1) (fun _ h => h) (DoesV.loadT (by rfl) 31 _ rfl ga 0 rfl ts (fun w9 hS => At.whole ((C67.out.below Kb_5.out C67.out.lt).below hS (C67.out.below Kb_5.out C67.out.lt).lt)) _ Tryd.underlying31 rfl (by rw [TA.out.len]; exact infoTree)) ?_
    try simp only [List.getElem_toArray, List.getElem_cons_succ, List.getElem_cons_zero, Act.put, List.setIfInBounds_toArray, List.set_cons_succ, List.set_cons_zero]
    refine wpAnyV_take (i := 1) (v := .agg (hdC (1, 1)).toArray) 8 (kept_below w8) rfl (by kernel_rfl) (by kernel_rfl) (fun _ _ _ h => by cases h.1) (fun _ h => h) (DoesV.calls 6 #[] (by rfl) (fun w9 hS => by go_simp) (fun w9 hS => root_v w9)) ?_
    try simp only [List.getElem_toArray, List.getElem_cons_succ, List.getElem_cons_zero, Act.put, List.setIfInBounds_toArray, List.set_cons_succ, List.set_cons_zero]
    refine wpAnyV_all (l := [2, 7, 8]) (by kernel_rfl) (by decide) (fun i hi y3_1 hy => ?_)
    simp only [List.mem_cons, List.not_mem_nil, or_false] at hi
    rcases hi with rfl | rfl | rfl
    · refine wpOp_at rfl rfl ?_
      refine wp_of_call (f := 4) (args := #[.agg ts.toArray, .agg (hdC (1, 1)).toArray, .string ⟨#[97]⟩, .bool false]) (by go_simp) ((by have h := HK.out.make (fileT nmA) ts (1, 1) nmA false (· < w8.heap.size) y3_1 (HT.out.below (below_chain K0_5.out hy)) ((TA.out.later Ka_5.out).below hy) ⟨by decide, by decide⟩ may_a; rw [again_a] at h; exact h)) fun e u3_2 hu => ?_
      obtain ⟨t3, d3, rfl, ht, hn, hb⟩ := hu
      have HYs_u3_2 := Lib.hid (show w8.heap.size ≤ y3_1.heap.size from hy.size)
      refine ⟨_, rfl, fun u => Below w8.heap.size w8 u ∧ TrAt u (Gap w8 y3_1 u3_2) t3 (fileT nmA) ∧ NdAt u (Gap w8 y3_1 u3_2) d3 nd0 ∧ u3_2.heap.size ≤ u.heap.size, ⟨below_chain hy hb, ht.gap, hn.gap, Nat.le_refl _⟩, kept_and (kept_below w8) (kept_and (kept_tr (Gap w8 y3_1 u3_2) t3 (fileT nmA)) (kept_and (kept_nd (Gap w8 y3_1 u3_2) d3 nd0) (kept_size u3_2.heap.size))), fun _ u h => h.1, ?_⟩
      try simp only [List.getElem_toArray, List.getElem_cons_succ, List.getElem_cons_zero, Act.put, List.setIfInBounds_toArray, List.set_cons_succ, List.set_cons_zero]
      refine wpAnyV_pure (i := 3) (v := .tuple #[.agg t3.toArray, .agg d3.toArray, .int .u8 3]) (kept_and (kept_below w8) (kept_and (kept_tr (Gap w8 y3_1 u3_2) t3 (fileT nmA)) (kept_and (kept_nd (Gap w8 y3_1 u3_2) d3 nd0) (kept_size u3_2.heap.size)))) rfl (by kernel_rfl) (by kernel_rfl) (fun _ _ _ h => by cases h.1) (DoesV.reads (by rfl) fun w9 hS => by go_simp) ?_
      try simp only [List.getElem_toArray, List.getElem_cons_succ, List.getElem_cons_zero, Act.put, List.setIfInBounds_toArray, List.set_cons_succ, List.set_cons_zero]
      refine wpAnyV_pure (i := 4) (v := .agg t3.toArray) (kept_and (kept_below w8) (kept_and (kept_tr (Gap w8 y3_1 u3_2) t3 (fileT nmA)) (kept_and (kept_nd (Gap w8 y3_1 u3_2) d3 nd0) (kept_size u3_2.heap.size)))) rfl (by kernel_rfl) (by kernel_rfl) (fun _ _ _ h => by cases h.1) (DoesV.reads (by rfl) fun w9 hS => by go_simp) ?_
      try simp only [List.getElem_toArray, List.getElem_cons_succ, List.getElem_cons_zero, Act.put, List.setIfInBounds_toArray, List.set_cons_succ, List.set_cons_zero]
      refine wpAnyV_pure (i := 5) (v := .agg d3.toArray) (kept_and (kept_below w8) (kept_and (kept_tr (Gap w8 y3_1 u3_2) t3 (fileT nmA)) (kept_and (kept_nd (Gap w8 y3_1 u3_2) d3 nd0) (kept_size u3_2.heap.size)))) rfl (by kernel_rfl) (by kernel_rfl) (fun _ _ _ h => by cases h.1) (DoesV.reads (by rfl) fun w9 hS => by go_simp) ?_
      try simp only [List.getElem_toArray, List.getElem_cons_succ, List.getElem_cons_zero, Act.put, List.setIfInBounds_toArray, List.set_cons_succ, List.set_cons_zero]
      refine wpAnyV_pure (i := 6) (v := .int .u8 3) (kept_and (kept_below w8) (kept_and (kept_tr (Gap w8 y3_1 u3_2) t3 (fileT nmA)) (kept_and (kept_nd (Gap w8 y3_1 u3_2) d3 nd0) (kept_size u3_2.heap.size)))) rfl (by kernel_rfl) (by kernel_rfl) (fun _ _ _ h => by cases h.1) (DoesV.reads (by rfl) fun w9 hS => by go_simp) ?_
      try simp only [List.getElem_toArray, List.getElem_cons_succ, List.getElem_cons_zero, Act.put, List.setIfInBounds_toArray, List.set_cons_succ, List.set_cons_zero]
      refine wpAnyV_all (l := [7, 8]) (by kernel_rfl) (by decide) (fun i hi y3_3 hy => ?_)
      simp only [List.mem_cons, List.not_mem_nil, or_false] at hi
      rcases hi with rfl | rfl
      · refine wpOp_at rfl rfl ?_
        refine wp_allocS 31 rfl treeZ treeZero (fun g3 u3_4 hk hb hg => ?_)
        have HGw_g3 := Lib.hid (show w8.heap.size ≤ g3 from Nat.le_trans hy.1.size hg)
        have HGa_g3 := Lib.hid (show u3_2.heap.size ≤ g3 from Nat.le_trans hy.2.2.2 hg)
        refine ⟨fun u => Below w8.heap.size w8 u ∧ TrAt u (Gap w8 y3_1 u3_2) t3 (fileT nmA) ∧ NdAt u (Gap w8 y3_1 u3_2) d3 nd0 ∧ u3_2.heap.size ≤ u.heap.size ∧ Cs u g3 31 treeZ.toArray, ⟨below_chain hy.1 hb, (kept_tr (Gap w8 y3_1 u3_2) t3 (fileT nmA)) y3_3 u3_4 hy.2.1 hb, (kept_nd (Gap w8 y3_1 u3_2) d3 nd0) y3_3 u3_4 hy.2.2.1 hb, (kept_size u3_2.heap.size) y3_3 u3_4 hy.2.2.2 hb, hk⟩, kept_and (kept_below w8) (kept_and (kept_tr (Gap w8 y3_1 u3_2) t3 (fileT nmA)) (kept_and (kept_nd (Gap w8 y3_1 u3_2) d3 nd0) (kept_and (kept_size u3_2.heap.size) (kept_cs _ _ _)))), fun _ u h => ⟨h.1, h.2.1, h.2.2.1, h.2.2.2.1⟩, ?_⟩
        try simp only [List.getElem_toArray, List.getElem_cons_succ, List.getElem_cons_zero, Act.put, List.setIfInBounds_toArray, List.set_cons_succ, List.set_cons_zero]
        refine wpAnyV_all (l := [8]) (by kernel_rfl) (by decide) (fun i hi y3_5 hy => ?_)
        simp only [List.mem_cons, List.not_mem_nil, or_false] at hi
        subst hi
        refine wpOp_at rfl rfl ?_
        refine wp_allocS 34 rfl nodeZ nodeZero (fun h3 u3_6 hk hb hg => ?_)
        have HGw_h3 := Lib.hid (show w8.heap.size ≤ h3 from Nat.le_trans hy.1.size hg)
        have HGa_h3 := Lib.hid (show u3_2.heap.size ≤ h3 from Nat.le_trans hy.2.2.2.1 hg)
        have HGn_g3_h3 := Lib.hid (show g3 ≠ h3 from by have := hy.2.2.2.2.lt; omega)
        refine ⟨fun u => Below w8.heap.size w8 u ∧ TrAt u (Gap w8 y3_1 u3_2) t3 (fileT nmA) ∧ NdAt u (Gap w8 y3_1 u3_2) d3 nd0 ∧ u3_2.heap.size ≤ u.heap.size ∧ Cs u g3 31 treeZ.toArray ∧ Cs u h3 34 nodeZ.toArray, ⟨below_chain hy.1 hb, (kept_tr (Gap w8 y3_1 u3_2) t3 (fileT nmA)) y3_5 u3_6 hy.2.1 hb, (kept_nd (Gap w8 y3_1 u3_2) d3 nd0) y3_5 u3_6 hy.2.2.1 hb, (kept_size u3_2.heap.size) y3_5 u3_6 hy.2.2.2.1 hb, (kept_cs _ _ _) y3_5 u3_6 hy.2.2.2.2 hb, hk⟩, kept_and (kept_below w8) (kept_and (kept_tr (Gap w8 y3_1 u3_2) t3 (fileT nmA)) (kept_and (kept_nd (Gap w8 y3_1 u3_2) d3 nd0) (kept_and (kept_size u3_2.heap.size) (kept_and (kept_cs _ _ _) (kept_cs _ _ _))))), fun _ u h => ⟨h.1, h.2.1, h.2.2.1, h.2.2.2.1, h.2.2.2.2.1⟩, ?_⟩
        try simp only [List.getElem_toArray, List.getElem_cons_succ, List.getElem_cons_zero, Act.put, List.setIfInBounds_toArray, List.set_cons_succ, List.set_cons_zero]
        refine wpAnyV_all (l := [9]) (by kernel_rfl) (by decide) (fun i hi y3_7 hy => ?_)
        simp only [List.mem_cons, List.not_mem_nil, or_false] at hi
        subst hi
        refine wpOp_at rfl rfl ?_
        refine wp_storeW 31 _ _ rfl g3 rfl t3 treeZ rfl hy.2.2.2.2.1 (by rw [hy.2.1.len]; rfl) (hy.2.1.one) (by rw [hy.2.1.len]; exact infoTree) (fun u3_8 hk ht => ?_)
        refine ⟨fun u => Below w8.heap.size w8 u ∧ TrAt u (Gap w8 y3_1 u3_2) t3 (fileT nmA) ∧ NdAt u (Gap w8 y3_1 u3_2) d3 nd0 ∧ u3_2.heap.size ≤ u.heap.size ∧ Cs u h3 34 nodeZ.toArray ∧ Cs u g3 31 t3.toArray, ⟨below_turn hy.1 ht hy.1.size HGw_g3.out, hy.2.1.turn ht (fun k hk2 e => by subst e; obtain ⟨h1, h2⟩ := hk2; have h3 := HGw_g3.out; have := HGa_g3.out; omega), hy.2.2.1.turn ht (fun k hk2 e => by subst e; obtain ⟨h1, h2⟩ := hk2; have h3 := HGw_g3.out; have := HGa_g3.out; omega), Nat.le_trans hy.2.2.2.1 ht.size, hy.2.2.2.2.2.turn ht (Ne.symm HGn_g3_h3.out), hk⟩, kept_and (kept_below w8) (kept_and (kept_tr (Gap w8 y3_1 u3_2) t3 (fileT nmA)) (kept_and (kept_nd (Gap w8 y3_1 u3_2) d3 nd0) (kept_and (kept_size u3_2.heap.size) (kept_and (kept_cs _ _ _) (kept_cs _ _ _))))), fun hn => (hn (by decide)).elim, ?_⟩
        try simp only [List.getElem_toArray, List.getElem_cons_succ, List.getElem_cons_zero, Act.put, List.setIfInBounds_toArray, List.set_cons_succ, List.set_cons_zero]
        refine wpAnyV_all (l := [10]) (by kernel_rfl) (by decide) (fun i hi y3_9 hy => ?_)
        simp only [List.mem_cons, List.not_mem_nil, or_false] at hi
        subst hi
        refine wpOp_at rfl rfl ?_
        refine wp_storeW 34 _ _ rfl h3 rfl d3 nodeZ rfl hy.2.2.2.2.1 (by rw [hy.2.2.1.len]; rfl) (hy.2.2.1.one) (by rw [hy.2.2.1.len]; exact infoNode) (fun u3_10 hk ht => ?_)
        refine ⟨fun u => Below w8.heap.size w8 u ∧ TrAt u (Gap w8 y3_1 u3_2) t3 (fileT nmA) ∧ NdAt u (Gap w8 y3_1 u3_2) d3 nd0 ∧ u3_2.heap.size ≤ u.heap.size ∧ Cs u g3 31 t3.toArray ∧ Cs u h3 34 d3.toArray, ⟨below_turn hy.1 ht hy.1.size HGw_h3.out, hy.2.1.turn ht (fun k hk2 e => by subst e; obtain ⟨h1, h2⟩ := hk2; have h3 := HGw_h3.out; have := HGa_h3.out; omega), hy.2.2.1.turn ht (fun k hk2 e => by subst e; obtain ⟨h1, h2⟩ := hk2; have h3 := HGw_h3.out; have := HGa_h3.out; omega), Nat.le_trans hy.2.2.2.1 ht.size, hy.2.2.2.2.2.turn ht HGn_g3_h3.out, hk⟩, kept_and (kept_below w8) (kept_and (kept_tr (Gap w8 y3_1 u3_2) t3 (fileT nmA)) (kept_and (kept_nd (Gap w8 y3_1 u3_2) d3 nd0) (kept_and (kept_size u3_2.heap.size) (kept_and (kept_cs _ _ _) (kept_cs _ _ _))))), fun hn => (hn (by decide)).elim, ?_⟩
        try simp only [List.getElem_toArray, List.getElem_cons_succ, List.getElem_cons_zero, Act.put, List.setIfInBounds_toArray, List.set_cons_succ, List.set_cons_zero]
        refine wpAnyV_pure (i := 11) (v := .int .u8 3) (kept_and (kept_below w8) (kept_and (kept_tr (Gap w8 y3_1 u3_2) t3 (fileT nmA)) (kept_and (kept_nd (Gap w8 y3_1 u3_2) d3 nd0) (kept_and (kept_size u3_2.heap.size) (kept_and (kept_cs _ _ _) (kept_cs _ _ _)))))) rfl (by kernel_rfl) (by kernel_rfl) (fun _ _ _ h => by cases h.1) (DoesV.reads (by rfl) fun w9 hS => by go_simp) ?_
        try simp only [List.getElem_toArray, List.getElem_cons_succ, List.getElem_cons_zero, Act.put, List.setIfInBounds_toArray, List.set_cons_succ, List.set_cons_zero]
        exact wpAnyV_done (by kernel_rfl) (fun z hz => ⟨rfl, g3, h3, t3, d3, hz.1, rfl⟩) _
      · refine wpOp_at rfl rfl ?_
        refine wp_allocS 34 rfl nodeZ nodeZero (fun h3 u3_11 hk hb hg => ?_)
        have HGw_h3 := Lib.hid (show w8.heap.size ≤ h3 from Nat.le_trans hy.1.size hg)
        have HGa_h3 := Lib.hid (show u3_2.heap.size ≤ h3 from Nat.le_trans hy.2.2.2 hg)
        refine ⟨fun u => Below w8.heap.size w8 u ∧ TrAt u (Gap w8 y3_1 u3_2) t3 (fileT nmA) ∧ NdAt u (Gap w8 y3_1 u3_2) d3 nd0 ∧ u3_2.heap.size ≤ u.heap.size ∧ Cs u h3 34 nodeZ.toArray, ⟨below_chain hy.1 hb, (kept_tr (Gap w8 y3_1 u3_2) t3 (fileT nmA)) y3_3 u3_11 hy.2.1 hb, (kept_nd (Gap w8 y3_1 u3_2) d3 nd0) y3_3 u3_11 hy.2.2.1 hb, (kept_size u3_2.heap.size) y3_3 u3_11 hy.2.2.2 hb, hk⟩, kept_and (kept_below w8) (kept_and (kept_tr (Gap w8 y3_1 u3_2) t3 (fileT nmA)) (kept_and (kept_nd (Gap w8 y3_1 u3_2) d3 nd0) (kept_and (kept_size u3_2.heap.size) (kept_cs _ _ _)))), fun _ u h => ⟨h.1, h.2.1, h.2.2.1, h.2.2.2.1⟩, ?_⟩
        try simp only [List.getElem_toArray, List.getElem_cons_succ, List.getElem_cons_zero, Act.put, List.setIfInBounds_toArray, List.set_cons_succ, List.set_cons_zero]
        refine wpAnyV_all (l := [7]) (by kernel_rfl) (by decide) (fun i hi y3_12 hy => ?_)
        simp only [List.mem_cons, List.not_mem_nil, or_false] at hi
        subst hi
        refine wpOp_at rfl rfl ?_
        refine wp_allocS 31 rfl treeZ treeZero (fun g3 u3_13 hk hb hg => ?_)
        have HGw_g3 := Lib.hid (show w8.heap.size ≤ g3 from Nat.le_trans hy.1.size hg)
        have HGa_g3 := Lib.hid (show u3_2.heap.size ≤ g3 from Nat.le_trans hy.2.2.2.1 hg)
        have HGn_h3_g3 := Lib.hid (show h3 ≠ g3 from by have := hy.2.2.2.2.lt; omega)
        refine ⟨fun u => Below w8.heap.size w8 u ∧ TrAt u (Gap w8 y3_1 u3_2) t3 (fileT nmA) ∧ NdAt u (Gap w8 y3_1 u3_2) d3 nd0 ∧ u3_2.heap.size ≤ u.heap.size ∧ Cs u h3 34 nodeZ.toArray ∧ Cs u g3 31 treeZ.toArray, ⟨below_chain hy.1 hb, (kept_tr (Gap w8 y3_1 u3_2) t3 (fileT nmA)) y3_12 u3_13 hy.2.1 hb, (kept_nd (Gap w8 y3_1 u3_2) d3 nd0) y3_12 u3_13 hy.2.2.1 hb, (kept_size u3_2.heap.size) y3_12 u3_13 hy.2.2.2.1 hb, (kept_cs _ _ _) y3_12 u3_13 hy.2.2.2.2 hb, hk⟩, kept_and (kept_below w8) (kept_and (kept_tr (Gap w8 y3_1 u3_2) t3 (fileT nmA)) (kept_and (kept_nd (Gap w8 y3_1 u3_2) d3 nd0) (kept_and (kept_size u3_2.heap.size) (kept_and (kept_cs _ _ _) (kept_cs _ _ _))))), fun _ u h => ⟨h.1, h.2.1, h.2.2.1, h.2.2.2.1, h.2.2.2.2.1⟩, ?_⟩
        try simp only [List.getElem_toArray, List.getElem_cons_succ, List.getElem_cons_zero, Act.put, List.setIfInBounds_toArray, List.set_cons_succ, List.set_cons_zero]
        refine wpAnyV_all (l := [9]) (by kernel_rfl) (by decide) (fun i hi y3_14 hy => ?_)
        simp only [List.mem_cons, List.not_mem_nil, or_false] at hi
        subst hi
        refine wpOp_at rfl rfl ?_
        refine wp_storeW 31 _ _ rfl g3 rfl t3 treeZ rfl hy.2.2.2.2.2 (by rw [hy.2.1.len]; rfl) (hy.2.1.one) (by rw [hy.2.1.len]; exact infoTree) (fun u3_15 hk ht => ?_)
        refine ⟨fun u => Below w8.heap.size w8 u ∧ TrAt u (Gap w8 y3_1 u3_2) t3 (fileT nmA) ∧ NdAt u (Gap w8 y3_1 u3_2) d3 nd0 ∧ u3_2.heap.size ≤ u.heap.size ∧ Cs u h3 34 nodeZ.toArray ∧ Cs u g3 31 t3.toArray, ⟨below_turn hy.1 ht hy.1.size HGw_g3.out, hy.2.1.turn ht (fun k hk2 e => by subst e; obtain ⟨h1, h2⟩ := hk2; have h3 := HGw_g3.out; have := HGa_g3.out; omega), hy.2.2.1.turn ht (fun k hk2 e => by subst e; obtain ⟨h1, h2⟩ := hk2; have h3 := HGw_g3.out; have := HGa_g3.out; omega), Nat.le_trans hy.2.2.2.1 ht.size, hy.2.2.2.2.1.turn ht HGn_h3_g3.out, hk⟩, kept_and (kept_below w8) (kept_and (kept_tr (Gap w8 y3_1 u3_2) t3 (fileT nmA)) (kept_and (kept_nd (Gap w8 y3_1 u3_2) d3 nd0) (kept_and (kept_size u3_2.heap.size) (kept_and (kept_cs _ _ _) (kept_cs _ _ _))))), fun hn => (hn (by decide)).elim, ?_⟩
        try simp only [List.getElem_toArray, List.getElem_cons_succ, List.getElem_cons_zero, Act.put, List.setIfInBounds_toArray, List.set_cons_succ, List.set_cons_zero]
        refine wpAnyV_all (l := [10]) (by kernel_rfl) (by decide) (fun i hi y3_16 hy => ?_)
        simp only [List.mem_cons, List.not_mem_nil, or_false] at hi
        subst hi
        refine wpOp_at rfl rfl ?_
        refine wp_storeW 34 _ _ rfl h3 rfl d3 nodeZ rfl hy.2.2.2.2.1 (by rw [hy.2.2.1.len]; rfl) (hy.2.2.1.one) (by rw [hy.2.2.1.len]; exact infoNode) (fun u3_17 hk ht => ?_)
        refine ⟨fun u => Below w8.heap.size w8 u ∧ TrAt u (Gap w8 y3_1 u3_2) t3 (fileT nmA) ∧ NdAt u (Gap w8 y3_1 u3_2) d3 nd0 ∧ u3_2.heap.size ≤ u.heap.size ∧ Cs u g3 31 t3.toArray ∧ Cs u h3 34 d3.toArray, ⟨below_turn hy.1 ht hy.1.size HGw_h3.out, hy.2.1.turn ht (fun k hk2 e => by subst e; obtain ⟨h1, h2⟩ := hk2; have h3 := HGw_h3.out; have := HGa_h3.out; omega), hy.2.2.1.turn ht (fun k hk2 e => by subst e; obtain ⟨h1, h2⟩ := hk2; have h3 := HGw_h3.out; have := HGa_h3.out; omega), Nat.le_trans hy.2.2.2.1 ht.size, hy.2.2.2.2.2.turn ht (Ne.symm HGn_h3_g3.out), hk⟩, kept_and (kept_below w8) (kept_and (kept_tr (Gap w8 y3_1 u3_2) t3 (fileT nmA)) (kept_and (kept_nd (Gap w8 y3_1 u3_2) d3 nd0) (kept_and (kept_size u3_2.heap.size) (kept_and (kept_cs _ _ _) (kept_cs _ _ _))))), fun hn => (hn (by decide)).elim, ?_⟩
        try simp only [List.getElem_toArray, List.getElem_cons_succ, List.getElem_cons_zero, Act.put, List.setIfInBounds_toArray, List.set_cons_succ, List.set_cons_zero]
        refine wpAnyV_pure (i := 11) (v := .int .u8 3) (kept_and (kept_below w8) (kept_and (kept_tr (Gap w8 y3_1 u3_2) t3 (fileT nmA)) (kept_and (kept_nd (Gap w8 y3_1 u3_2) d3 nd0) (kept_and (kept_size u3_2.heap.size) (kept_and (kept_cs _ _ _) (kept_cs _ _ _)))))) rfl (by kernel_rfl) (by kernel_rfl) (fun _ _ _ h => by cases h.1) (DoesV.reads (by rfl) fun w9 hS => by go_simp) ?_
        try simp only [List.getElem_toArray, List.getElem_cons_succ, List.getElem_cons_zero, Act.put, List.setIfInBounds_toArray, List.set_cons_succ, List.set_cons_zero]
        exact wpAnyV_done (by kernel_rfl) (fun z hz => ⟨rfl, g3, h3, t3, d3, hz.1, rfl⟩) _
    · refine wpOp_at rfl rfl ?_
      refine wp_allocS 31 rfl treeZ treeZero (fun g3 u3_18 hk hb hg => ?_)
      have HGw_g3 := Lib.hid (show w8.heap.size ≤ g3 from Nat.le_trans hy.size hg)
      refine ⟨fun u => Below w8.heap.size w8 u ∧ Cs u g3 31 treeZ.toArray, ⟨below_chain hy hb, hk⟩, kept_and (kept_below w8) (kept_cs _ _ _), fun _ u h => h.1, ?_⟩
      try simp only [List.getElem_toArray, List.getElem_cons_succ, List.getElem_cons_zero, Act.put, List.setIfInBounds_toArray, List.set_cons_succ, List.set_cons_zero]
      refine wpAnyV_all (l := [2, 8]) (by kernel_rfl) (by decide) (fun i hi y3_19 hy => ?_)
      simp only [List.mem_cons, List.not_mem_nil, or_false] at hi
      rcases hi with rfl | rfl
      · refine wpOp_at rfl rfl ?_
        refine wp_of_call (f := 4) (args := #[.agg ts.toArray, .agg (hdC (1, 1)).toArray, .string ⟨#[97]⟩, .bool false]) (by go_simp) ((by have h := HK.out.make (fileT nmA) ts (1, 1) nmA false (· < w8.heap.size) y3_19 (HT.out.below (below_chain K0_5.out hy.1)) ((TA.out.later Ka_5.out).below hy.1) ⟨by decide, by decide⟩ may_a; rw [again_a] at h; exact h)) fun e u3_20 hu => ?_
        obtain ⟨t3, d3, rfl, ht, hn, hb⟩ := hu
        have HYs_u3_20 := Lib.hid (show w8.heap.size ≤ y3_19.heap.size from hy.1.size)
        have HGb_g3 := Lib.hid (show g3 < y3_19.heap.size from hy.2.lt)
        refine ⟨_, rfl, fun u => Below w8.heap.size w8 u ∧ Cs u g3 31 treeZ.toArray ∧ TrAt u (Gap w8 y3_19 u3_20) t3 (fileT nmA) ∧ NdAt u (Gap w8 y3_19 u3_20) d3 nd0 ∧ u3_20.heap.size ≤ u.heap.size, ⟨below_chain hy.1 hb, (kept_cs _ _ _) y3_19 u3_20 hy.2 hb, ht.gap, hn.gap, Nat.le_refl _⟩, kept_and (kept_below w8) (kept_and (kept_cs _ _ _) (kept_and (kept_tr (Gap w8 y3_19 u3_20) t3 (fileT nmA)) (kept_and (kept_nd (Gap w8 y3_19 u3_20) d3 nd0) (kept_size u3_20.heap.size)))), fun _ u h => ⟨h.1, h.2.1⟩, ?_⟩
        try simp only [List.getElem_toArray, List.getElem_cons_succ, List.getElem_cons_zero, Act.put, List.setIfInBounds_toArray, List.set_cons_succ, List.set_cons_zero]
        refine wpAnyV_pure (i := 3) (v := .tuple #[.agg t3.toArray, .agg d3.toArray, .int .u8 3]) (kept_and (kept_below w8) (kept_and (kept_cs _ _ _) (kept_and (kept_tr (Gap w8 y3_19 u3_20) t3 (fileT nmA)) (kept_and (kept_nd (Gap w8 y3_19 u3_20) d3 nd0) (kept_size u3_20.heap.size))))) rfl (by kernel_rfl) (by kernel_rfl) (fun _ _ _ h => by cases h.1) (DoesV.reads (by rfl) fun w9 hS => by go_simp) ?_
        try simp only [List.getElem_toArray, List.getElem_cons_succ, List.getElem_cons_zero, Act.put, List.setIfInBounds_toArray, List.set_cons_succ, List.set_cons_zero]
        refine wpAnyV_pure (i := 4) (v := .agg t3.toArray) (kept_and (kept_below w8) (kept_and (kept_cs _ _ _) (kept_and (kept_tr (Gap w8 y3_19 u3_20) t3 (fileT nmA)) (kept_and (kept_nd (Gap w8 y3_19 u3_20) d3 nd0) (kept_size u3_20.heap.size))))) rfl (by kernel_rfl) (by kernel_rfl) (fun _ _ _ h => by cases h.1) (DoesV.reads (by rfl) fun w9 hS => by go_simp) ?_
        try simp only [List.getElem_toArray, List.getElem_cons_succ, List.getElem_cons_zero, Act.put, List.setIfInBounds_toArray, List.set_cons_succ, List.set_cons_zero]
        refine wpAnyV_pure (i := 5) (v := .agg d3.toArray) (kept_and (kept_below w8) (kept_and (kept_cs _ _ _) (kept_and (kept_tr (Gap w8 y3_19 u3_20) t3 (fileT nmA)) (kept_and (kept_nd (Gap w8 y3_19 u3_20) d3 nd0) (kept_size u3_20.heap.size))))) rfl (by kernel_rfl) (by kernel_rfl) (fun _ _ _ h => by cases h.1) (DoesV.reads (by rfl) fun w9 hS => by go_simp) ?_
        try simp only [List.getElem_toArray, List.getElem_cons_succ, List.getElem_cons_zero, Act.put, List.setIfInBounds_toArray, List.set_cons_succ, List.set_cons_zero]
        refine wpAnyV_pure (i := 6) (v := .int .u8 3) (kept_and (kept_below w8) (kept_and (kept_cs _ _ _) (kept_and (kept_tr (Gap w8 y3_19 u3_20) t3 (fileT nmA)) (kept_and (kept_nd (Gap w8 y3_19 u3_20) d3 nd0) (kept_size u3_20.heap.size))))) rfl (by kernel_rfl) (by kernel_rfl) (fun _ _ _ h => by cases h.1) (DoesV.reads (by rfl) fun w9 hS => by go_simp) ?_
        try simp only [List.getElem_toArray, List.getElem_cons_succ, List.getElem_cons_zero, Act.put, List.setIfInBounds_toArray, List.set_cons_succ, List.set_cons_zero]
        refine wpAnyV_all (l := [8]) (by kernel_rfl) (by decide) (fun i hi y3_21 hy => ?_)
        simp only [List.mem_cons, List.not_mem_nil, or_false] at hi
        subst hi
        refine wpOp_at rfl rfl ?_
        refine wp_allocS 34 rfl nodeZ nodeZero (fun h3 u3_22 hk hb hg => ?_)
        have HGw_h3 := Lib.hid (show w8.heap.size ≤ h3 from Nat.le_trans hy.1.size hg)
        have HGa_h3 := Lib.hid (show u3_20.heap.size ≤ h3 from Nat.le_trans hy.2.2.2.2 hg)
        have HGn_g3_h3 := Lib.hid (show g3 ≠ h3 from by have := hy.2.1.lt; omega)
        refine ⟨fun u => Below w8.heap.size w8 u ∧ Cs u g3 31 treeZ.toArray ∧ TrAt u (Gap w8 y3_19 u3_20) t3 (fileT nmA) ∧ NdAt u (Gap w8 y3_19 u3_20) d3 nd0 ∧ u3_20.heap.size ≤ u.heap.size ∧ Cs u h3 34 nodeZ.toArray, ⟨below_chain hy.1 hb, (kept_cs _ _ _) y3_21 u3_22 hy.2.1 hb, (kept_tr (Gap w8 y3_19 u3_20) t3 (fileT nmA)) y3_21 u3_22 hy.2.2.1 hb, (kept_nd (Gap w8 y3_19 u3_20) d3 nd0) y3_21 u3_22 hy.2.2.2.1 hb, (kept_size u3_20.heap.size) y3_21 u3_22 hy.2.2.2.2 hb, hk⟩, kept_and (kept_below w8) (kept_and (kept_cs _ _ _) (kept_and (kept_tr (Gap w8 y3_19 u3_20) t3 (fileT nmA)) (kept_and (kept_nd (Gap w8 y3_19 u3_20) d3 nd0) (kept_and (kept_size u3_20.heap.size) (kept_cs _ _ _))))), fun _ u h => ⟨h.1, h.2.1, h.2.2.1, h.2.2.2.1, h.2.2.2.2.1⟩, ?_⟩
        try simp only [List.getElem_toArray, List.getElem_cons_succ, List.getElem_cons_zero, Act.put, List.setIfInBounds_toArray, List.set_cons_succ, List.set_cons_zero]
        refine wpAnyV_all (l := [9]) (by kernel_rfl) (by decide) (fun i hi y3_23 hy => ?_)
        simp only [List.mem_cons, List.not_mem_nil, or_false] at hi
        subst hi
        refine wpOp_at rfl rfl ?_
        refine wp_storeW 31 _ _ rfl g3 rfl t3 treeZ rfl hy.2.1 (by rw [hy.2.2.1.len]; rfl) (hy.2.2.1.one) (by rw [hy.2.2.1.len]; exact infoTree) (fun u3_24 hk ht => ?_)
        refine ⟨fun u => Below w8.heap.size w8 u ∧ TrAt u (Gap w8 y3_19 u3_20) t3 (fileT nmA) ∧ NdAt u (Gap w8 y3_19 u3_20) d3 nd0 ∧ u3_20.heap.size ≤ u.heap.size ∧ Cs u h3 34 nodeZ.toArray ∧ Cs u g3 31 t3.toArray, ⟨below_turn hy.1 ht hy.1.size HGw_g3.out, hy.2.2.1.turn ht (fun k hk2 e => by subst e; obtain ⟨h1, h2⟩ := hk2; have h3 := HGw_g3.out; have := HGb_g3.out; omega), hy.2.2.2.1.turn ht (fun k hk2 e => by subst e; obtain ⟨h1, h2⟩ := hk2; have h3 := HGw_g3.out; have := HGb_g3.out; omega), Nat.le_trans hy.2.2.2.2.1 ht.size, hy.2.2.2.2.2.turn ht (Ne.symm HGn_g3_h3.out), hk⟩, kept_and (kept_below w8) (kept_and (kept_tr (Gap w8 y3_19 u3_20) t3 (fileT nmA)) (kept_and (kept_nd (Gap w8 y3_19 u3_20) d3 nd0) (kept_and (kept_size u3_20.heap.size) (kept_and (kept_cs _ _ _) (kept_cs _ _ _))))), fun hn => (hn (by decide)).elim, ?_⟩
        try simp only [List.getElem_toArray, List.getElem_cons_succ, List.getElem_cons_zero, Act.put, List.setIfInBounds_toArray, List.set_cons_succ, List.set_cons_zero]
        refine wpAnyV_all (l := [10]) (by kernel_rfl) (by decide) (fun i hi y3_25 hy => ?_)
        simp only [List.mem_cons, List.not_mem_nil, or_false] at hi
        subst hi
        refine wpOp_at rfl rfl ?_
        refine wp_storeW 34 _ _ rfl h3 rfl d3 nodeZ rfl hy.2.2.2.2.1 (by rw [hy.2.2.1.len]; rfl) (hy.2.2.1.one) (by rw [hy.2.2.1.len]; exact infoNode) (fun u3_26 hk ht => ?_)
        refine ⟨fun u => Below w8.heap.size w8 u ∧ TrAt u (Gap w8 y3_19 u3_20) t3 (fileT nmA) ∧ NdAt u (Gap w8 y3_19 u3_20) d3 nd0 ∧ u3_20.heap.size ≤ u.heap.size ∧ Cs u g3 31 t3.toArray ∧ Cs u h3 34 d3.toArray, ⟨below_turn hy.1 ht hy.1.size HGw_h3.out, hy.2.1.turn ht (fun k hk2 e => by subst e; obtain ⟨h1, h2⟩ := hk2; have h3 := HGw_h3.out; have := HGa_h3.out; omega), hy.2.2.1.turn ht (fun k hk2 e => by subst e; obtain ⟨h1, h2⟩ := hk2; have h3 := HGw_h3.out; have := HGa_h3.out; omega), Nat.le_trans hy.2.2.2.1 ht.size, hy.2.2.2.2.2.turn ht HGn_g3_h3.out, hk⟩, kept_and (kept_below w8) (kept_and (kept_tr (Gap w8 y3_19 u3_20) t3 (fileT nmA)) (kept_and (kept_nd (Gap w8 y3_19 u3_20) d3 nd0) (kept_and (kept_size u3_20.heap.size) (kept_and (kept_cs _ _ _) (kept_cs _ _ _))))), fun hn => (hn (by decide)).elim, ?_⟩
        try simp only [List.getElem_toArray, List.getElem_cons_succ, List.getElem_cons_zero, Act.put, List.setIfInBounds_toArray, List.set_cons_succ, List.set_cons_zero]
        refine wpAnyV_pure (i := 11) (v := .int .u8 3) (kept_and (kept_below w8) (kept_and (kept_tr (Gap w8 y3_19 u3_20) t3 (fileT nmA)) (kept_and (kept_nd (Gap w8 y3_19 u3_20) d3 nd0) (kept_and (kept_size u3_20.heap.size) (kept_and (kept_cs _ _ _) (kept_cs _ _ _)))))) rfl (by kernel_rfl) (by kernel_rfl) (fun _ _ _ h => by cases h.1) (DoesV.reads (by rfl) fun w9 hS => by go_simp) ?_
        try simp only [List.getElem_toArray, List.getElem_cons_succ, List.getElem_cons_zero, Act.put, List.setIfInBounds_toArray, List.set_cons_succ, List.set_cons_zero]
        exact wpAnyV_done (by kernel_rfl) (fun z hz => ⟨rfl, g3, h3, t3, d3, hz.1, rfl⟩) _
      · refine wpOp_at rfl rfl ?_
        refine wp_allocS 34 rfl nodeZ nodeZero (fun h3 u3_27 hk hb hg => ?_)
        have HGw_h3 := Lib.hid (show w8.heap.size ≤ h3 from Nat.le_trans hy.1.size hg)
        have HGn_g3_h3 := Lib.hid (show g3 ≠ h3 from by have := hy.2.lt; omega)
        refine ⟨fun u => Below w8.heap.size w8 u ∧ Cs u g3 31 treeZ.toArray ∧ Cs u h3 34 nodeZ.toArray, ⟨below_chain hy.1 hb, (kept_cs _ _ _) y3_19 u3_27 hy.2 hb, hk⟩, kept_and (kept_below w8) (kept_and (kept_cs _ _ _) (kept_cs _ _ _)), fun _ u h => ⟨h.1, h.2.1⟩, ?_⟩
        try simp only [List.getElem_toArray, List.getElem_cons_succ, List.getElem_cons_zero, Act.put, List.setIfInBounds_toArray, List.set_cons_succ, List.set_cons_zero]
        refine wpAnyV_all (l := [2]) (by kernel_rfl) (by decide) (fun i hi y3_28 hy => ?_)
        simp only [List.mem_cons, List.not_mem_nil, or_false] at hi
        subst hi
        refine wpOp_at rfl rfl ?_
        refine wp_of_call (f := 4) (args := #[.agg ts.toArray, .agg (hdC (1, 1)).toArray, .string ⟨#[97]⟩, .bool false]) (by go_simp) ((by have h := HK.out.make (fileT nmA) ts (1, 1) nmA false (· < w8.heap.size) y3_28 (HT.out.below (below_chain K0_5.out hy.1)) ((TA.out.later Ka_5.out).below hy.1) ⟨by decide, by decide⟩ may_a; rw [again_a] at h; exact h)) fun e u3_29 hu => ?_
        obtain ⟨t3, d3, rfl, ht, hn, hb⟩ := hu
        have HYs_u3_29 := Lib.hid (show w8.heap.size ≤ y3_28.heap.size from hy.1.size)
        have HGb_g3 := Lib.hid (show g3 < y3_28.heap.size from hy.2.1.lt)
        have HGb_h3 := Lib.hid (show h3 < y3_28.heap.size from hy.2.2.lt)
        refine ⟨_, rfl, fun u => Below w8.heap.size w8 u ∧ Cs u g3 31 treeZ.toArray ∧ Cs u h3 34 nodeZ.toArray ∧ TrAt u (Gap w8 y3_28 u3_29) t3 (fileT nmA) ∧ NdAt u (Gap w8 y3_28 u3_29) d3 nd0 ∧ u3_29.heap.size ≤ u.heap.size, ⟨below_chain hy.1 hb, (kept_cs _ _ _) y3_28 u3_29 hy.2.1 hb, (kept_cs _ _ _) y3_28 u3_29 hy.2.2 hb, ht.gap, hn.gap, Nat.le_refl _⟩, kept_and (kept_below w8) (kept_and (kept_cs _ _ _) (kept_and (kept_cs _ _ _) (kept_and (kept_tr (Gap w8 y3_28 u3_29) t3 (fileT nmA)) (kept_and (kept_nd (Gap w8 y3_28 u3_29) d3 nd0) (kept_size u3_29.heap.size))))), fun _ u h => ⟨h.1, h.2.1, h.2.2.1⟩, ?_⟩
        try simp only [List.getElem_toArray, List.getElem_cons_succ, List.getElem_cons_zero, Act.put, List.setIfInBounds_toArray, List.set_cons_succ, List.set_cons_zero]
        refine wpAnyV_pure (i := 3) (v := .tuple #[.agg t3.toArray, .agg d3.toArray, .int .u8 3]) (kept_and (kept_below w8) (kept_and (kept_cs _ _ _) (kept_and (kept_cs _ _ _) (kept_and (kept_tr (Gap w8 y3_28 u3_29) t3 (fileT nmA)) (kept_and (kept_nd (Gap w8 y3_28 u3_29) d3 nd0) (kept_size u3_29.heap.size)))))) rfl (by kernel_rfl) (by kernel_rfl) (fun _ _ _ h => by cases h.1) (DoesV.reads (by rfl) fun w9 hS => by go_simp) ?_
        try simp only [List.getElem_toArray, List.getElem_cons_succ, List.getElem_cons_zero, Act.put, List.setIfInBounds_toArray, List.set_cons_succ, List.set_cons_zero]
        refine wpAnyV_pure (i := 4) (v := .agg t3.toArray) (kept_and (kept_below w8) (kept_and (kept_cs _ _ _) (kept_and (kept_cs _ _ _) (kept_and (kept_tr (Gap w8 y3_28 u3_29) t3 (fileT nmA)) (kept_and (kept_nd (Gap w8 y3_28 u3_29) d3 nd0) (kept_size u3_29.heap.size)))))) rfl (by kernel_rfl) (by kernel_rfl) (fun _ _ _ h => by cases h.1) (DoesV.reads (by rfl) fun w9 hS => by go_simp) ?_
        try simp only [List.getElem_toArray, List.getElem_cons_succ, List.getElem_cons_zero, Act.put, List.setIfInBounds_toArray, List.set_cons_succ, List.set_cons_zero]
        refine wpAnyV_pure (i := 5) (v := .agg d3.toArray) (kept_and (kept_below w8) (kept_and (kept_cs _ _ _) (kept_and (kept_cs _ _ _) (kept_and (kept_tr (Gap w8 y3_28 u3_29) t3 (fileT nmA)) (kept_and (kept_nd (Gap w8 y3_28 u3_29) d3 nd0) (kept_size u3_29.heap.size)))))) rfl (by kernel_rfl) (by kernel_rfl) (fun _ _ _ h => by cases h.1) (DoesV.reads (by rfl) fun w9 hS => by go_simp) ?_
        try simp only [List.getElem_toArray, List.getElem_cons_succ, List.getElem_cons_zero, Act.put, List.setIfInBounds_toArray, List.set_cons_succ, List.set_cons_zero]
        refine wpAnyV_pure (i := 6) (v := .int .u8 3) (kept_and (kept_below w8) (kept_and (kept_cs _ _ _) (kept_and (kept_cs _ _ _) (kept_and (kept_tr (Gap w8 y3_28 u3_29) t3 (fileT nmA)) (kept_and (kept_nd (Gap w8 y3_28 u3_29) d3 nd0) (kept_size u3_29.heap.size)))))) rfl (by kernel_rfl) (by kernel_rfl) (fun _ _ _ h => by cases h.1) (DoesV.reads (by rfl) fun w9 hS => by go_simp) ?_
        try simp only [List.getElem_toArray, List.getElem_cons_succ, List.getElem_cons_zero, Act.put, List.setIfInBounds_toArray, List.set_cons_succ, List.set_cons_zero]
        refine wpAnyV_all (l := [9]) (by kernel_rfl) (by decide) (fun i hi y3_30 hy => ?_)
        simp only [List.mem_cons, List.not_mem_nil, or_false] at hi
        subst hi
        refine wpOp_at rfl rfl ?_
        refine wp_storeW 31 _ _ rfl g3 rfl t3 treeZ rfl hy.2.1 (by rw [hy.2.2.2.1.len]; rfl) (hy.2.2.2.1.one) (by rw [hy.2.2.2.1.len]; exact infoTree) (fun u3_31 hk ht => ?_)
        refine ⟨fun u => Below w8.heap.size w8 u ∧ Cs u h3 34 nodeZ.toArray ∧ TrAt u (Gap w8 y3_28 u3_29) t3 (fileT nmA) ∧ NdAt u (Gap w8 y3_28 u3_29) d3 nd0 ∧ u3_29.heap.size ≤ u.heap.size ∧ Cs u g3 31 t3.toArray, ⟨below_turn hy.1 ht hy.1.size HGw_g3.out, hy.2.2.1.turn ht (Ne.symm HGn_g3_h3.out), hy.2.2.2.1.turn ht (fun k hk2 e => by subst e; obtain ⟨h1, h2⟩ := hk2; have h3 := HGw_g3.out; have := HGb_g3.out; omega), hy.2.2.2.2.1.turn ht (fun k hk2 e => by subst e; obtain ⟨h1, h2⟩ := hk2; have h3 := HGw_g3.out; have := HGb_g3.out; omega), Nat.le_trans hy.2.2.2.2.2 ht.size, hk⟩, kept_and (kept_below w8) (kept_and (kept_cs _ _ _) (kept_and (kept_tr (Gap w8 y3_28 u3_29) t3 (fileT nmA)) (kept_and (kept_nd (Gap w8 y3_28 u3_29) d3 nd0) (kept_and (kept_size u3_29.heap.size) (kept_cs _ _ _))))), fun hn => (hn (by decide)).elim, ?_⟩
        try simp only [List.getElem_toArray, List.getElem_cons_succ, List.getElem_cons_zero, Act.put, List.setIfInBounds_toArray, List.set_cons_succ, List.set_cons_zero]
        refine wpAnyV_all (l := [10]) (by kernel_rfl) (by decide) (fun i hi y3_32 hy => ?_)
        simp only [List.mem_cons, List.not_mem_nil, or_false] at hi
        subst hi
        refine wpOp_at rfl rfl ?_
        refine wp_storeW 34 _ _ rfl h3 rfl d3 nodeZ rfl hy.2.1 (by rw [hy.2.2.2.1.len]; rfl) (hy.2.2.2.1.one) (by rw [hy.2.2.2.1.len]; exact infoNode) (fun u3_33 hk ht => ?_)
        refine ⟨fun u => Below w8.heap.size w8 u ∧ TrAt u (Gap w8 y3_28 u3_29) t3 (fileT nmA) ∧ NdAt u (Gap w8 y3_28 u3_29) d3 nd0 ∧ u3_29.heap.size ≤ u.heap.size ∧ Cs u g3 31 t3.toArray ∧ Cs u h3 34 d3.toArray, ⟨below_turn hy.1 ht hy.1.size HGw_h3.out, hy.2.2.1.turn ht (fun k hk2 e => by subst e; obtain ⟨h1, h2⟩ := hk2; have h3 := HGw_h3.out; have := HGb_h3.out; omega), hy.2.2.2.1.turn ht (fun k hk2 e => by subst e; obtain ⟨h1, h2⟩ := hk2; have h3 := HGw_h3.out; have := HGb_h3.out; omega), Nat.le_trans hy.2.2.2.2.1 ht.size, hy.2.2.2.2.2.turn ht HGn_g3_h3.out, hk⟩, kept_and (kept_below w8) (kept_and (kept_tr (Gap w8 y3_28 u3_29) t3 (fileT nmA)) (kept_and (kept_nd (Gap w8 y3_28 u3_29) d3 nd0) (kept_and (kept_size u3_29.heap.size) (kept_and (kept_cs _ _ _) (kept_cs _ _ _))))), fun hn => (hn (by decide)).elim, ?_⟩
        try simp only [List.getElem_toArray, List.getElem_cons_succ, List.getElem_cons_zero, Act.put, List.setIfInBounds_toArray, List.set_cons_succ, List.set_cons_zero]
        refine wpAnyV_pure (i := 11) (v := .int .u8 3) (kept_and (kept_below w8) (kept_and (kept_tr (Gap w8 y3_28 u3_29) t3 (fileT nmA)) (kept_and (kept_nd (Gap w8 y3_28 u3_29) d3 nd0) (kept_and (kept_size u3_29.heap.size) (kept_and (kept_cs _ _ _) (kept_cs _ _ _)))))) rfl (by kernel_rfl) (by kernel_rfl) (fun _ _ _ h => by cases h.1) (DoesV.reads (by rfl) fun w9 hS => by go_simp) ?_
        try simp only [List.getElem_toArray, List.getElem_cons_succ, List.getElem_cons_zero, Act.put, List.setIfInBounds_toArray, List.set_cons_succ, List.set_cons_zero]
        exact wpAnyV_done (by kernel_rfl) (fun z hz => ⟨rfl, g3, h3, t3, d3, hz.1, rfl⟩) _
    · refine wpOp_at rfl rfl ?_
      refine wp_allocS 34 rfl nodeZ nodeZero (fun h3 u3_34 hk hb hg => ?_)
      have HGw_h3 := Lib.hid (show w8.heap.size ≤ h3 from Nat.le_trans hy.size hg)
      refine ⟨fun u => Below w8.heap.size w8 u ∧ Cs u h3 34 nodeZ.toArray, ⟨below_chain hy hb, hk⟩, kept_and (kept_below w8) (kept_cs _ _ _), fun _ u h => h.1, ?_⟩
      try simp only [List.getElem_toArray, List.getElem_cons_succ, List.getElem_cons_zero, Act.put, List.setIfInBounds_toArray, List.set_cons_succ, List.set_cons_zero]
      refine wpAnyV_all (l := [2, 7]) (by kernel_rfl) (by decide) (fun i hi y3_35 hy => ?_)
      simp only [List.mem_cons, List.not_mem_nil, or_false] at hi
      rcases hi with rfl | rfl
      · refine wpOp_at rfl rfl ?_
        refine wp_of_call (f := 4) (args := #[.agg ts.toArray, .agg (hdC (1, 1)).toArray, .string ⟨#[97]⟩, .bool false]) (by go_simp) ((by have h := HK.out.make (fileT nmA) ts (1, 1) nmA false (· < w8.heap.size) y3_35 (HT.out.below (below_chain K0_5.out hy.1)) ((TA.out.later Ka_5.out).below hy.1) ⟨by decide, by decide⟩ may_a; rw [again_a] at h; exact h)) fun e u3_36 hu => ?_
        obtain ⟨t3, d3, rfl, ht, hn, hb⟩ := hu
        have HYs_u3_36 := Lib.hid (show w8.heap.size ≤ y3_35.heap.size from hy.1.size)
        have HGb_h3 := Lib.hid (show h3 < y3_35.heap.size from hy.2.lt)
        refine ⟨_, rfl, fun u => Below w8.heap.size w8 u ∧ Cs u h3 34 nodeZ.toArray ∧ TrAt u (Gap w8 y3_35 u3_36) t3 (fileT nmA) ∧ NdAt u (Gap w8 y3_35 u3_36) d3 nd0 ∧ u3_36.heap.size ≤ u.heap.size, ⟨below_chain hy.1 hb, (kept_cs _ _ _) y3_35 u3_36 hy.2 hb, ht.gap, hn.gap, Nat.le_refl _⟩, kept_and (kept_below w8) (kept_and (kept_cs _ _ _) (kept_and (kept_tr (Gap w8 y3_35 u3_36) t3 (fileT nmA)) (kept_and (kept_nd (Gap w8 y3_35 u3_36) d3 nd0) (kept_size u3_36.heap.size)))), fun _ u h => ⟨h.1, h.2.1⟩, ?_⟩
        try simp only [List.getElem_toArray, List.getElem_cons_succ, List.getElem_cons_zero, Act.put, List.setIfInBounds_toArray, List.set_cons_succ, List.set_cons_zero]
        refine wpAnyV_pure (i := 3) (v := .tuple #[.agg t3.toArray, .agg d3.toArray, .int .u8 3]) (kept_and (kept_below w8) (kept_and (kept_cs _ _ _) (kept_and (kept_tr (Gap w8 y3_35 u3_36) t3 (fileT nmA)) (kept_and (kept_nd (Gap w8 y3_35 u3_36) d3 nd0) (kept_size u3_36.heap.size))))) rfl (by kernel_rfl) (by kernel_rfl) (fun _ _ _ h => by cases h.1) (DoesV.reads (by rfl) fun w9 hS => by go_simp) ?_
        try simp only [List.getElem_toArray, List.getElem_cons_succ, List.getElem_cons_zero, Act.put, List.setIfInBounds_toArray, List.set_cons_succ, List.set_cons_zero]
        refine wpAnyV_pure (i := 4) (v := .agg t3.toArray) (kept_and (kept_below w8) (kept_and (kept_cs _ _ _) (kept_and (kept_tr (Gap w8 y3_35 u3_36) t3 (fileT nmA)) (kept_and (kept_nd (Gap w8 y3_35 u3_36) d3 nd0) (kept_size u3_36.heap.size))))) rfl (by kernel_rfl) (by kernel_rfl) (fun _ _ _ h => by cases h.1) (DoesV.reads (by rfl) fun w9 hS => by go_simp) ?_
        try simp only [List.getElem_toArray, List.getElem_cons_succ, List.getElem_cons_zero, Act.put, List.setIfInBounds_toArray, List.set_cons_succ, List.set_cons_zero]
        refine wpAnyV_pure (i := 5) (v := .agg d3.toArray) (kept_and (kept_below w8) (kept_and (kept_cs _ _ _) (kept_and (kept_tr (Gap w8 y3_35 u3_36) t3 (fileT nmA)) (kept_and (kept_nd (Gap w8 y3_35 u3_36) d3 nd0) (kept_size u3_36.heap.size))))) rfl (by kernel_rfl) (by kernel_rfl) (fun _ _ _ h => by cases h.1) (DoesV.reads (by rfl) fun w9 hS => by go_simp) ?_
        try simp only [List.getElem_toArray, List.getElem_cons_succ, List.getElem_cons_zero, Act.put, List.setIfInBounds_toArray, List.set_cons_succ, List.set_cons_zero]
        refine wpAnyV_pure (i := 6) (v := .int .u8 3) (kept_and (kept_below w8) (kept_and (kept_cs _ _ _) (kept_and (kept_tr (Gap w8 y3_35 u3_36) t3 (fileT nmA)) (kept_and (kept_nd (Gap w8 y3_35 u3_36) d3 nd0) (kept_size u3_36.heap.size))))) rfl (by kernel_rfl) (by kernel_rfl) (fun _ _ _ h => by cases h.1) (DoesV.reads (by rfl) fun w9 hS => by go_simp) ?_
        try simp only [List.getElem_toArray, List.getElem_cons_succ, List.getElem_cons_zero, Act.put, List.setIfInBounds_toArray, List.set_cons_succ, List.set_cons_zero]
        refine wpAnyV_all (l := [7]) (by kernel_rfl) (by decide) (fun i hi y3_37 hy => ?_)
        simp only [List.mem_cons, List.not_mem_nil, or_false] at hi
        subst hi
        refine wpOp_at rfl rfl ?_
        refine wp_allocS 31 rfl treeZ treeZero (fun g3 u3_38 hk hb hg => ?_)
        have HGw_g3 := Lib.hid (show w8.heap.size ≤ g3 from Nat.le_trans hy.1.size hg)
        have HGa_g3 := Lib.hid (show u3_36.heap.size ≤ g3 from Nat.le_trans hy.2.2.2.2 hg)
        have HGn_h3_g3 := Lib.hid (show h3 ≠ g3 from by have := hy.2.1.lt; omega)
        refine ⟨fun u => Below w8.heap.size w8 u ∧ Cs u h3 34 nodeZ.toArray ∧ TrAt u (Gap w8 y3_35 u3_36) t3 (fileT nmA) ∧ NdAt u (Gap w8 y3_35 u3_36) d3 nd0 ∧ u3_36.heap.size ≤ u.heap.size ∧ Cs u g3 31 treeZ.toArray, ⟨below_chain hy.1 hb, (kept_cs _ _ _) y3_37 u3_38 hy.2.1 hb, (kept_tr (Gap w8 y3_35 u3_36) t3 (fileT nmA)) y3_37 u3_38 hy.2.2.1 hb, (kept_nd (Gap w8 y3_35 u3_36) d3 nd0) y3_37 u3_38 hy.2.2.2.1 hb, (kept_size u3_36.heap.size) y3_37 u3_38 hy.2.2.2.2 hb, hk⟩, kept_and (kept_below w8) (kept_and (kept_cs _ _ _) (kept_and (kept_tr (Gap w8 y3_35 u3_36) t3 (fileT nmA)) (kept_and (kept_nd (Gap w8 y3_35 u3_36) d3 nd0) (kept_and (kept_size u3_36.heap.size) (kept_cs _ _ _))))), fun _ u h => ⟨h.1, h.2.1, h.2.2.1, h.2.2.2.1, h.2.2.2.2.1⟩, ?_⟩
        try simp only [List.getElem_toArray, List.getElem_cons_succ, List.getElem_cons_zero, Act.put, List.setIfInBounds_toArray, List.set_cons_succ, List.set_cons_zero]
        refine wpAnyV_all (l := [9]) (by kernel_rfl) (by decide) (fun i hi y3_39 hy => ?_)
        simp only [List.mem_cons, List.not_mem_nil, or_false] at hi
        subst hi
        refine wpOp_at rfl rfl ?_
        refine wp_storeW 31 _ _ rfl g3 rfl t3 treeZ rfl hy.2.2.2.2.2 (by rw [hy.2.2.1.len]; rfl) (hy.2.2.1.one) (by rw [hy.2.2.1.len]; exact infoTree) (fun u3_40 hk ht => ?_)
        refine ⟨fun u => Below w8.heap.size w8 u ∧ Cs u h3 34 nodeZ.toArray ∧ TrAt u (Gap w8 y3_35 u3_36) t3 (fileT nmA) ∧ NdAt u (Gap w8 y3_35 u3_36) d3 nd0 ∧ u3_36.heap.size ≤ u.heap.size ∧ Cs u g3 31 t3.toArray, ⟨below_turn hy.1 ht hy.1.size HGw_g3.out, hy.2.1.turn ht HGn_h3_g3.out, hy.2.2.1.turn ht (fun k hk2 e => by subst e; obtain ⟨h1, h2⟩ := hk2; have h3 := HGw_g3.out; have := HGa_g3.out; omega), hy.2.2.2.1.turn ht (fun k hk2 e => by subst e; obtain ⟨h1, h2⟩ := hk2; have h3 := HGw_g3.out; have := HGa_g3.out; omega), Nat.le_trans hy.2.2.2.2.1 ht.size, hk⟩, kept_and (kept_below w8) (kept_and (kept_cs _ _ _) (kept_and (kept_tr (Gap w8 y3_35 u3_36) t3 (fileT nmA)) (kept_and (kept_nd (Gap w8 y3_35 u3_36) d3 nd0) (kept_and (kept_size u3_36.heap.size) (kept_cs _ _ _))))), fun hn => (hn (by decide)).elim, ?_⟩
        try simp only [List.getElem_toArray, List.getElem_cons_succ, List.getElem_cons_zero, Act.put, List.setIfInBounds_toArray, List.set_cons_succ, List.set_cons_zero]
        refine wpAnyV_all (l := [10]) (by kernel_rfl) (by decide) (fun i hi y3_41 hy => ?_)
        simp only [List.mem_cons, List.not_mem_nil, or_false] at hi
        subst hi
        refine wpOp_at rfl rfl ?_
        refine wp_storeW 34 _ _ rfl h3 rfl d3 nodeZ rfl hy.2.1 (by rw [hy.2.2.2.1.len]; rfl) (hy.2.2.2.1.one) (by rw [hy.2.2.2.1.len]; exact infoNode) (fun u3_42 hk ht => ?_)
        refine ⟨fun u => Below w8.heap.size w8 u ∧ TrAt u (Gap w8 y3_35 u3_36) t3 (fileT nmA) ∧ NdAt u (Gap w8 y3_35 u3_36) d3 nd0 ∧ u3_36.heap.size ≤ u.heap.size ∧ Cs u g3 31 t3.toArray ∧ Cs u h3 34 d3.toArray, ⟨below_turn hy.1 ht hy.1.size HGw_h3.out, hy.2.2.1.turn ht (fun k hk2 e => by subst e; obtain ⟨h1, h2⟩ := hk2; have h3 := HGw_h3.out; have := HGb_h3.out; omega), hy.2.2.2.1.turn ht (fun k hk2 e => by subst e; obtain ⟨h1, h2⟩ := hk2; have h3 := HGw_h3.out; have := HGb_h3.out; omega), Nat.le_trans hy.2.2.2.2.1 ht.size, hy.2.2.2.2.2.turn ht (Ne.symm HGn_h3_g3.out), hk⟩, kept_and (kept_below w8) (kept_and (kept_tr (Gap w8 y3_35 u3_36) t3 (fileT nmA)) (kept_and (kept_nd (Gap w8 y3_35 u3_36) d3 nd0) (kept_and (kept_size u3_36.heap.size) (kept_and (kept_cs _ _ _) (kept_cs _ _ _))))), fun hn => (hn (by decide)).elim, ?_⟩
        try simp only [List.getElem_toArray, List.getElem_cons_succ, List.getElem_cons_zero, Act.put, List.setIfInBounds_toArray, List.set_cons_succ, List.set_cons_zero]
        refine wpAnyV_pure (i := 11) (v := .int .u8 3) (kept_and (kept_below w8) (kept_and (kept_tr (Gap w8 y3_35 u3_36) t3 (fileT nmA)) (kept_and (kept_nd (Gap w8 y3_35 u3_36) d3 nd0) (kept_and (kept_size u3_36.heap.size) (kept_and (kept_cs _ _ _) (kept_cs _ _ _)))))) rfl (by kernel_rfl) (by kernel_rfl) (fun _ _ _ h => by cases h.1) (DoesV.reads (by rfl) fun w9 hS => by go_simp) ?_
        try simp only [List.getElem_toArray, List.getElem_cons_succ, List.getElem_cons_zero, Act.put, List.setIfInBounds_toArray, List.set_cons_succ, List.set_cons_zero]
        exact wpAnyV_done (by kernel_rfl) (fun z hz => ⟨rfl, g3, h3, t3, d3, hz.1, rfl⟩) _
      · refine wpOp_at rfl rfl ?_
        refine wp_allocS 31 rfl treeZ treeZero (fun g3 u3_43 hk hb hg => ?_)
        have HGw_g3 := Lib.hid (show w8.heap.size ≤ g3 from Nat.le_trans hy.1.size hg)
        have HGn_h3_g3 := Lib.hid (show h3 ≠ g3 from by have := hy.2.lt; omega)
        refine ⟨fun u => Below w8.heap.size w8 u ∧ Cs u h3 34 nodeZ.toArray ∧ Cs u g3 31 treeZ.toArray, ⟨below_chain hy.1 hb, (kept_cs _ _ _) y3_35 u3_43 hy.2 hb, hk⟩, kept_and (kept_below w8) (kept_and (kept_cs _ _ _) (kept_cs _ _ _)), fun _ u h => ⟨h.1, h.2.1⟩, ?_⟩
        try simp only [List.getElem_toArray, List.getElem_cons_succ, List.getElem_cons_zero, Act.put, List.setIfInBounds_toArray, List.set_cons_succ, List.set_cons_zero]
        refine wpAnyV_all (l := [2]) (by kernel_rfl) (by decide) (fun i hi y3_44 hy => ?_)
        simp only [List.mem_cons, List.not_mem_nil, or_false] at hi
        subst hi
        refine wpOp_at rfl rfl ?_
        refine wp_of_call (f := 4) (args := #[.agg ts.toArray, .agg (hdC (1, 1)).toArray, .string ⟨#[97]⟩, .bool false]) (by go_simp) ((by have h := HK.out.make (fileT nmA) ts (1, 1) nmA false (· < w8.heap.size) y3_44 (HT.out.below (below_chain K0_5.out hy.1)) ((TA.out.later Ka_5.out).below hy.1) ⟨by decide, by decide⟩ may_a; rw [again_a] at h; exact h)) fun e u3_45 hu => ?_
        obtain ⟨t3, d3, rfl, ht, hn, hb⟩ := hu
        have HYs_u3_45 := Lib.hid (show w8.heap.size ≤ y3_44.heap.size from hy.1.size)
        have HGb_h3 := Lib.hid (show h3 < y3_44.heap.size from hy.2.1.lt)
        have HGb_g3 := Lib.hid (show g3 < y3_44.heap.size from hy.2.2.lt)
        refine ⟨_, rfl, fun u => Below w8.heap.size w8 u ∧ Cs u h3 34 nodeZ.toArray ∧ Cs u g3 31 treeZ.toArray ∧ TrAt u (Gap w8 y3_44 u3_45) t3 (fileT nmA) ∧ NdAt u (Gap w8 y3_44 u3_45) d3 nd0 ∧ u3_45.heap.size ≤ u.heap.size, ⟨below_chain hy.1 hb, (kept_cs _ _ _) y3_44 u3_45 hy.2.1 hb, (kept_cs _ _ _) y3_44 u3_45 hy.2.2 hb, ht.gap, hn.gap, Nat.le_refl _⟩, kept_and (kept_below w8) (kept_and (kept_cs _ _ _) (kept_and (kept_cs _ _ _) (kept_and (kept_tr (Gap w8 y3_44 u3_45) t3 (fileT nmA)) (kept_and (kept_nd (Gap w8 y3_44 u3_45) d3 nd0) (kept_size u3_45.heap.size))))), fun _ u h => ⟨h.1, h.2.1, h.2.2.1⟩, ?_⟩
        try simp only [List.getElem_toArray, List.getElem_cons_succ, List.getElem_cons_zero, Act.put, List.setIfInBounds_toArray, List.set_cons_succ, List.set_cons_zero]
        refine wpAnyV_pure (i := 3) (v := .tuple #[.agg t3.toArray, .agg d3.toArray, .int .u8 3]) (kept_and (kept_below w8) (kept_and (kept_cs _ _ _) (kept_and (kept_cs _ _ _) (kept_and (kept_tr (Gap w8 y3_44 u3_45) t3 (fileT nmA)) (kept_and (kept_nd (Gap w8 y3_44 u3_45) d3 nd0) (kept_size u3_45.heap.size)))))) rfl (by kernel_rfl) (by kernel_rfl) (fun _ _ _ h => by cases h.1) (DoesV.reads (by rfl) fun w9 hS => by go_simp) ?_
        try simp only [List.getElem_toArray, List.getElem_cons_succ, List.getElem_cons_zero, Act.put, List.setIfInBounds_toArray, List.set_cons_succ, List.set_cons_zero]
        refine wpAnyV_pure (i := 4) (v := .agg t3.toArray) (kept_and (kept_below w8) (kept_and (kept_cs _ _ _) (kept_and (kept_cs _ _ _) (kept_and (kept_tr (Gap w8 y3_44 u3_45) t3 (fileT nmA)) (kept_and (kept_nd (Gap w8 y3_44 u3_45) d3 nd0) (kept_size u3_45.heap.size)))))) rfl (by kernel_rfl) (by kernel_rfl) (fun _ _ _ h => by cases h.1) (DoesV.reads (by rfl) fun w9 hS => by go_simp) ?_
        try simp only [List.getElem_toArray, List.getElem_cons_succ, List.getElem_cons_zero, Act.put, List.setIfInBounds_toArray, List.set_cons_succ, List.set_cons_zero]
        refine wpAnyV_pure (i := 5) (v := .agg d3.toArray) (kept_and (kept_below w8) (kept_and (kept_cs _ _ _) (kept_and (kept_cs _ _ _) (kept_and (kept_tr (Gap w8 y3_44 u3_45) t3 (fileT nmA)) (kept_and (kept_nd (Gap w8 y3_44 u3_45) d3 nd0) (kept_size u3_45.heap.size)))))) rfl (by kernel_rfl) (by kernel_rfl) (fun _ _ _ h => by cases h.1) (DoesV.reads (by rfl) fun w9 hS => by go_simp) ?_
        try simp only [List.getElem_toArray, List.getElem_cons_succ, List.getElem_cons_zero, Act.put, List.setIfInBounds_toArray, List.set_cons_succ, List.set_cons_zero]
        refine wpAnyV_pure (i := 6) (v := .int .u8 3) (kept_and (kept_below w8) (kept_and (kept_cs _ _ _) (kept_and (kept_cs _ _ _) (kept_and (kept_tr (Gap w8 y3_44 u3_45) t3 (fileT nmA)) (kept_and (kept_nd (Gap w8 y3_44 u3_45) d3 nd0) (kept_size u3_45.heap.size)))))) rfl (by kernel_rfl) (by kernel_rfl) (fun _ _ _ h => by cases h.1) (DoesV.reads (by rfl) fun w9 hS => by go_simp) ?_
        try simp only [List.getElem_toArray, List.getElem_cons_succ, List.getElem_cons_zero, Act.put, List.setIfInBounds_toArray, List.set_cons_succ, List.set_cons_zero]
        refine wpAnyV_all (l := [9]) (by kernel_rfl) (by decide) (fun i hi y3_46 hy => ?_)
        simp only [List.mem_cons, List.not_mem_nil, or_false] at hi
        subst hi
        refine wpOp_at rfl rfl ?_
        refine wp_storeW 31 _ _ rfl g3 rfl t3 treeZ rfl hy.2.2.1 (by rw [hy.2.2.2.1.len]; rfl) (hy.2.2.2.1.one) (by rw [hy.2.2.2.1.len]; exact infoTree) (fun u3_47 hk ht => ?_)
        refine ⟨fun u => Below w8.heap.size w8 u ∧ Cs u h3 34 nodeZ.toArray ∧ TrAt u (Gap w8 y3_44 u3_45) t3 (fileT nmA) ∧ NdAt u (Gap w8 y3_44 u3_45) d3 nd0 ∧ u3_45.heap.size ≤ u.heap.size ∧ Cs u g3 31 t3.toArray, ⟨below_turn hy.1 ht hy.1.size HGw_g3.out, hy.2.1.turn ht HGn_h3_g3.out, hy.2.2.2.1.turn ht (fun k hk2 e => by subst e; obtain ⟨h1, h2⟩ := hk2; have h3 := HGw_g3.out; have := HGb_g3.out; omega), hy.2.2.2.2.1.turn ht (fun k hk2 e => by subst e; obtain ⟨h1, h2⟩ := hk2; have h3 := HGw_g3.out; have := HGb_g3.out; omega), Nat.le_trans hy.2.2.2.2.2 ht.size, hk⟩, kept_and (kept_below w8) (kept_and (kept_cs _ _ _) (kept_and (kept_tr (Gap w8 y3_44 u3_45) t3 (fileT nmA)) (kept_and (kept_nd (Gap w8 y3_44 u3_45) d3 nd0) (kept_and (kept_size u3_45.heap.size) (kept_cs _ _ _))))), fun hn => (hn (by decide)).elim, ?_⟩
        try simp only [List.getElem_toArray, List.getElem_cons_succ, List.getElem_cons_zero, Act.put, List.setIfInBounds_toArray, List.set_cons_succ, List.set_cons_zero]
        refine wpAnyV_all (l := [10]) (by kernel_rfl) (by decide) (fun i hi y3_48 hy => ?_)
        simp only [List.mem_cons, List.not_mem_nil, or_false] at hi
        subst hi
        refine wpOp_at rfl rfl ?_
        refine wp_storeW 34 _ _ rfl h3 rfl d3 nodeZ rfl hy.2.1 (by rw [hy.2.2.2.1.len]; rfl) (hy.2.2.2.1.one) (by rw [hy.2.2.2.1.len]; exact infoNode) (fun u3_49 hk ht => ?_)
        refine ⟨fun u => Below w8.heap.size w8 u ∧ TrAt u (Gap w8 y3_44 u3_45) t3 (fileT nmA) ∧ NdAt u (Gap w8 y3_44 u3_45) d3 nd0 ∧ u3_45.heap.size ≤ u.heap.size ∧ Cs u g3 31 t3.toArray ∧ Cs u h3 34 d3.toArray, ⟨below_turn hy.1 ht hy.1.size HGw_h3.out, hy.2.2.1.turn ht (fun k hk2 e => by subst e; obtain ⟨h1, h2⟩ := hk2; have h3 := HGw_h3.out; have := HGb_h3.out; omega), hy.2.2.2.1.turn ht (fun k hk2 e => by subst e; obtain ⟨h1, h2⟩ := hk2; have h3 := HGw_h3.out; have := HGb_h3.out; omega), Nat.le_trans hy.2.2.2.2.1 ht.size, hy.2.2.2.2.2.turn ht (Ne.symm HGn_h3_g3.out), hk⟩, kept_and (kept_below w8) (kept_and (kept_tr (Gap w8 y3_44 u3_45) t3 (fileT nmA)) (kept_and (kept_nd (Gap w8 y3_44 u3_45) d3 nd0) (kept_and (kept_size u3_45.heap.size) (kept_and (kept_cs _ _ _) (kept_cs _ _ _))))), fun hn => (hn (by decide)).elim, ?_⟩
        try simp only [List.getElem_toArray, List.getElem_cons_succ, List.getElem_cons_zero, Act.put, List.setIfInBounds_toArray, List.set_cons_succ, List.set_cons_zero]
        refine wpAnyV_pure (i := 11) (v := .int .u8 3) (kept_and (kept_below w8) (kept_and (kept_tr (Gap w8 y3_44 u3_45) t3 (fileT nmA)) (kept_and (kept_nd (Gap w8 y3_44 u3_45) d3 nd0) (kept_and (kept_size u3_45.heap.size) (kept_and (kept_cs _ _ _) (kept_cs _ _ _)))))) rfl (by kernel_rfl) (by kernel_rfl) (fun _ _ _ h => by cases h.1) (DoesV.reads (by rfl) fun w9 hS => by go_simp) ?_
        try simp only [List.getElem_toArray, List.getElem_cons_succ, List.getElem_cons_zero, Act.put, List.setIfInBounds_toArray, List.set_cons_succ, List.set_cons_zero]
        exact wpAnyV_done (by kernel_rfl) (fun z hz => ⟨rfl, g3, h3, t3, d3, hz.1, rfl⟩) _
  rintro a1 w9 ⟨g3, h3, t3, d3, hb, rfl⟩
  try simp only [List.getElem_toArray, List.getElem_cons_succ, List.getElem_cons_zero, Act.put, List.setIfInBounds_toArray, List.set_cons_succ, List.set_cons_zero]
  have K0_6 := Lib.hid (below_chain K0_5.out hb)
  have Kn_6 := Lib.hid (below_chain Kn_5.out hb)
  have Ka_6 := Lib.hid (below_chain Ka_5.out hb)
  have Kb_6 := Lib.hid (below_chain Kb_5.out hb)
  have Kx_6 := Lib.hid (hb)
  clear hb
  go_wp2_with (first
    | ((with_reducible show wpList _ _ _ _ _ w9); refine wpList_loadS rfl 31 _ rfl ga rfl ts (C67.out.below Kb_6.out C67.out.lt) _ Tryd.underlying31 rfl (by rw [TA.out.len]; exact infoTree) ?_; go_frame)
    | ((with_reducible show wpList _ _ _ _ _ w9); refine wpList_buildB2 rfl _ _ rfl 7 8 rfl rfl ?_; intro gb w10 hk1 hb1; go_frame; have D10 := Lib.hid hk1; have B10 := Lib.hid hb1; clear hk1 hb1)
    | fail)
  have K0_7 := Lib.hid (below_chain K0_6.out B10.out)
  have Kn_7 := Lib.hid (below_chain Kn_6.out B10.out)
  have Ka_7 := Lib.hid (below_chain Ka_6.out B10.out)
  have Kb_7 := Lib.hid (below_chain Kb_6.out B10.out)
  have Kx_7 := Lib.hid (below_chain Kx_6.out B10.out)
  have hm := HK.out.write (fileT nmA) ts (2, 2) 3 (.slice (some ⟨gb, 0, none⟩) 2 2) [7, 8] (· < w10.heap.size) (fun _ => True) w10 (HT.out.below K0_7.out) (TA.out.later Ka_7.out) ⟨by decide, by decide⟩ (by decide) D10.out may_a
  rw [write_a] at hm
  refine hm.mono ?_
  clear hm
  rintro e w11 ⟨bs, rfl, ht, hb⟩
  have TB := Lib.hid (show TrAt w11 (· < w11.heap.size) bs wroteT from ht.mono fun k hk _ => hk)
  have K0_8 := Lib.hid (below_chain K0_7.out hb)
  have Kn_8 := Lib.hid (below_chain Kn_7.out hb)
  have Ka_8 := Lib.hid (below_chain Ka_7.out hb)
  have Kb_8 := Lib.hid (below_chain Kb_7.out hb)
  have Kx_8 := Lib.hid (below_chain Kx_7.out hb)
  clear ht hb
  go_wp2_with (first
    | ((with_reducible show wpList _ _ _ _ _ w11); refine wpList_allocS rfl 31 rfl treeZ treeZero ?_; intro gt w12 hk1 hb1 hg1; go_frame; have C12 := Lib.hid hk1; have B12 := Lib.hid hb1; have G12 := Lib.hid hg1; clear hk1 hb1 hg1)
    | ((with_reducible show wpList _ _ _ _ _ w12); refine wpList_storeS rfl 31 _ _ rfl gt rfl bs treeZ rfl C12.out (by rw [TB.out.len]; rfl) TB.out.one (by rw [TB.out.len]; exact infoTree) ?_; intro w13 hk2 ht2; go_frame; have C13 := Lib.hid hk2; have B13 := Lib.hid (show Below w11.heap.size w11 w13 from below_turn B12.out ht2 B12.out.size G12.out); clear hk2 ht2)
    | ((with_reducible show wpList _ _ _ _ _ w13); refine wpList_loadS rfl 31 _ rfl gt rfl bs C13.out _ Tryd.underlying31 rfl (by rw [TB.out.len]; exact infoTree) ?_; go_frame)
    | fail)
  have K0_9 := Lib.hid (below_chain K0_8.out B13.out)
  have Kn_9 := Lib.hid (below_chain Kn_8.out B13.out)
  have Ka_9 := Lib.hid (below_chain Ka_8.out B13.out)
  have Kb_9 := Lib.hid (below_chain Kb_8.out B13.out)
  have Kx_9 := Lib.hid (below_chain Kx_8.out B13.out)
  have Kt_9 := Lib.hid (B13.out)
  have hm := HK.out.find wroteT bs (2, 2) (· < w13.heap.size) w13 (HT.out.below K0_9.out) (TB.out.later Kt_9.out) ⟨by decide, by decide⟩ may_b
  rw [find_b] at hm
  refine hm.mono ?_
  clear hm
  rintro e w14 ⟨fs, rfl, hn, hb⟩
  have NF := Lib.hid (show NdAt w14 (· < w14.heap.size) fs ⟨2, 2, false, 4294967299, [0, 0, 0, 7, 8], []⟩ from hn.mono fun k hk _ => hk)
  have K0_10 := Lib.hid (below_chain K0_9.out hb)
  have Kn_10 := Lib.hid (below_chain Kn_9.out hb)
  have Ka_10 := Lib.hid (below_chain Ka_9.out hb)
  have Kb_10 := Lib.hid (below_chain Kb_9.out hb)
  have Kx_10 := Lib.hid (below_chain Kx_9.out hb)
  have Kt_10 := Lib.hid (below_chain Kt_9.out hb)
  have Kg_10 := Lib.hid (hb)
  clear hn hb
  go_wp2_with (first
    | ((with_reducible show wpList _ _ _ _ _ w14); refine wpList_allocS rfl 34 rfl nodeZ nodeZero ?_; intro gf w15 hk1 hb1 hg1; go_frame; have C15 := Lib.hid hk1; have B15 := Lib.hid hb1; have G15 := Lib.hid hg1; clear hk1 hb1 hg1)
    | ((with_reducible show wpList _ _ _ _ _ w15); refine wpList_storeS rfl 34 _ _ rfl gf rfl fs nodeZ rfl C15.out (by rw [NF.out.len]; rfl) NF.out.one (by rw [NF.out.len]; exact infoNode) ?_; intro w16 hk2 ht2; go_frame; have C16 := Lib.hid hk2; have B16 := Lib.hid (show Below w14.heap.size w14 w16 from below_turn B15.out ht2 B15.out.size G15.out); clear hk2 ht2)
    | fail)
  have K0_11 := Lib.hid (below_chain K0_10.out B16.out)
  have Kn_11 := Lib.hid (below_chain Kn_10.out B16.out)
  have Ka_11 := Lib.hid (below_chain Ka_10.out B16.out)
  have Kb_11 := Lib.hid (below_chain Kb_10.out B16.out)
  have Kx_11 := Lib.hid (below_chain Kx_10.out B16.out)
  have Kt_11 := Lib.hid (below_chain Kt_10.out B16.out)
  have Kg_11 := Lib.hid (below_chain Kg_10.out B16.out)
  have Kf_11 := Lib.hid (B16.out)
  have HR6 := Lib.hid gone_b
  refine code_cut (fun a a1 u => ∃ (g6 : Nat) (t6 : List Value), Below w16.heap.size w16 u ∧ a1 = ((((((((a.put (some 55) (.agg bs.toArray)).put (some 56) (.agg (hdC (1, 1)).toArray)).put (some 57) (.tuple #[.agg t6.toArray, .int .u8 0])).put (some 54) (.tuple #[.agg t6.toArray, .int .u8 0])).put (some 58) (.agg t6.toArray)).put (some 59) (.int .u8 0)).put (some 13) (.pointer (some ⟨g6, 0, none⟩))).put (some 14) (.int .u8 0))) ?_ ?_
  · refine wp_region_V [7] (Below w16.heap.size w16) hmix ((Below.refl _ _).drew) ?_
    change wpAnyV _ _ _ _ _ _ _ _ _
    refine wpAnyV_take (i := 0) (v := .agg bs.toArray) 8 (kept_below w16) rfl (by kernel_rfl) (by kernel_rfl) (fun _ _ _ h => by cases h.1) (fun _ h => h) (DoesV.loadT (by rfl) 31 _ rfl gt 0 rfl bs (fun w9 hS => At.whole ((C13.out.below Kg_11.out C13.out.lt).below hS (C13.out.below Kg_11.out C13.out.lt).lt)) _ Tryd.underlying31 rfl (by rw [TB.out.len]; exact infoTree)) ?_
    try simp only [List.getElem_toArray, List.getElem_cons_succ, List.getElem_cons_zero, Act.put, List.setIfInBounds_toArray, List.set_cons_succ, List.set_cons_zero]
    refine wpAnyV_take (i := 1) (v := .agg (hdC (1, 1)).toArray) 8 (kept_below w16) rfl (by kernel_rfl) (by kernel_rfl) (fun _ _ _ h => by cases h.1) (fun _ h => h) (DoesV.calls 6 #[] (by rfl) (fun w9 hS => by go_simp) (fun w9 hS => root_v w9)) ?_
    try simp only [List.getElem_toArray, List.getElem_cons_succ, List.getElem_cons_zero, Act.put, List.setIfInBounds_toArray, List.set_cons_succ, List.set_cons_zero]
    refine wpAnyV_all (l := [2, 6]) (by kernel_rfl) (by decide) (fun i hi y6_1 hy => ?_)
    simp only [List.mem_cons, List.not_mem_nil, or_false] at hi
    rcases hi with rfl | rfl
    · refine wpOp_at rfl rfl ?_
      refine wp_of_call (f := 32) (args := #[.agg bs.toArray, .agg (hdC (1, 1)).toArray, .string ⟨#[97]⟩, .bool false]) (by go_simp) ((by have h := HK.out.remove wroteT bs (1, 1) nmA false (· < w16.heap.size) y6_1 (HT.out.below (below_chain K0_11.out hy)) ((TB.out.later Kt_11.out).below hy) ⟨by decide, by decide⟩ may_b; unfold GivesT at h; rw [gone_b] at h; exact h)) fun e u6_2 hu => ?_
      obtain ⟨t6, rfl, ht, hb⟩ := hu
      have HYs_u6_2 := Lib.hid (show w16.heap.size ≤ y6_1.heap.size from hy.size)
      refine ⟨_, rfl, fun u => Below w16.heap.size w16 u ∧ TrAt u (Gap w16 y6_1 u6_2) t6 (removeT wroteT (1, 1) nmA false).1 ∧ u6_2.heap.size ≤ u.heap.size, ⟨below_chain hy hb, ht.gap, Nat.le_refl _⟩, kept_and (kept_below w16) (kept_and (kept_tr (Gap w16 y6_1 u6_2) t6 (removeT wroteT (1, 1) nmA false).1) (kept_size u6_2.heap.size)), fun _ u h => h.1, ?_⟩
      try simp only [List.getElem_toArray, List.getElem_cons_succ, List.getElem_cons_zero, Act.put, List.setIfInBounds_toArray, List.set_cons_succ, List.set_cons_zero]
      refine wpAnyV_pure (i := 3) (v := .tuple #[.agg t6.toArray, .int .u8 0]) (kept_and (kept_below w16) (kept_and (kept_tr (Gap w16 y6_1 u6_2) t6 (removeT wroteT (1, 1) nmA false).1) (kept_size u6_2.heap.size))) rfl (by kernel_rfl) (by kernel_rfl) (fun _ _ _ h => by cases h.1) (DoesV.reads (by rfl) fun w9 hS => by go_simp) ?_
      try simp only [List.getElem_toArray, List.getElem_cons_succ, List.getElem_cons_zero, Act.put, List.setIfInBounds_toArray, List.set_cons_succ, List.set_cons_zero]
      refine wpAnyV_pure (i := 4) (v := .agg t6.toArray) (kept_and (kept_below w16) (kept_and (kept_tr (Gap w16 y6_1 u6_2) t6 (removeT wroteT (1, 1) nmA false).1) (kept_size u6_2.heap.size))) rfl (by kernel_rfl) (by kernel_rfl) (fun _ _ _ h => by cases h.1) (DoesV.reads (by rfl) fun w9 hS => by go_simp) ?_
      try simp only [List.getElem_toArray, List.getElem_cons_succ, List.getElem_cons_zero, Act.put, List.setIfInBounds_toArray, List.set_cons_succ, List.set_cons_zero]
      refine wpAnyV_pure (i := 5) (v := .int .u8 0) (kept_and (kept_below w16) (kept_and (kept_tr (Gap w16 y6_1 u6_2) t6 (removeT wroteT (1, 1) nmA false).1) (kept_size u6_2.heap.size))) rfl (by kernel_rfl) (by kernel_rfl) (fun _ _ _ h => by cases h.1) (DoesV.reads (by rfl) fun w9 hS => by go_simp) ?_
      try simp only [List.getElem_toArray, List.getElem_cons_succ, List.getElem_cons_zero, Act.put, List.setIfInBounds_toArray, List.set_cons_succ, List.set_cons_zero]
      refine wpAnyV_all (l := [6]) (by kernel_rfl) (by decide) (fun i hi y6_3 hy => ?_)
      simp only [List.mem_cons, List.not_mem_nil, or_false] at hi
      subst hi
      refine wpOp_at rfl rfl ?_
      refine wp_allocS 31 rfl treeZ treeZero (fun g6 u6_4 hk hb hg => ?_)
      have HGw_g6 := Lib.hid (show w16.heap.size ≤ g6 from Nat.le_trans hy.1.size hg)
      have HGa_g6 := Lib.hid (show u6_2.heap.size ≤ g6 from Nat.le_trans hy.2.2 hg)
      refine ⟨fun u => Below w16.heap.size w16 u ∧ TrAt u (Gap w16 y6_1 u6_2) t6 (removeT wroteT (1, 1) nmA false).1 ∧ u6_2.heap.size ≤ u.heap.size ∧ Cs u g6 31 treeZ.toArray, ⟨below_chain hy.1 hb, (kept_tr (Gap w16 y6_1 u6_2) t6 (removeT wroteT (1, 1) nmA false).1) y6_3 u6_4 hy.2.1 hb, (kept_size u6_2.heap.size) y6_3 u6_4 hy.2.2 hb, hk⟩, kept_and (kept_below w16) (kept_and (kept_tr (Gap w16 y6_1 u6_2) t6 (removeT wroteT (1, 1) nmA false).1) (kept_and (kept_size u6_2.heap.size) (kept_cs _ _ _))), fun _ u h => ⟨h.1, h.2.1, h.2.2.1⟩, ?_⟩
      try simp only [List.getElem_toArray, List.getElem_cons_succ, List.getElem_cons_zero, Act.put, List.setIfInBounds_toArray, List.set_cons_succ, List.set_cons_zero]
      refine wpAnyV_all (l := [7]) (by kernel_rfl) (by decide) (fun i hi y6_5 hy => ?_)
      simp only [List.mem_cons, List.not_mem_nil, or_false] at hi
      subst hi
      refine wpOp_at rfl rfl ?_
      refine wp_storeW 31 _ _ rfl g6 rfl t6 treeZ rfl hy.2.2.2 (by rw [hy.2.1.len]; rfl) (hy.2.1.one) (by rw [hy.2.1.len]; exact infoTree) (fun u6_6 hk ht => ?_)
      refine ⟨fun u => Below w16.heap.size w16 u ∧ TrAt u (Gap w16 y6_1 u6_2) t6 (removeT wroteT (1, 1) nmA false).1 ∧ u6_2.heap.size ≤ u.heap.size ∧ Cs u g6 31 t6.toArray, ⟨below_turn hy.1 ht hy.1.size HGw_g6.out, hy.2.1.turn ht (fun k hk2 e => by subst e; obtain ⟨h1, h2⟩ := hk2; have h3 := HGw_g6.out; have := HGa_g6.out; omega), Nat.le_trans hy.2.2.1 ht.size, hk⟩, kept_and (kept_below w16) (kept_and (kept_tr (Gap w16 y6_1 u6_2) t6 (removeT wroteT (1, 1) nmA false).1) (kept_and (kept_size u6_2.heap.size) (kept_cs _ _ _))), fun hn => (hn (by decide)).elim, ?_⟩
      try simp only [List.getElem_toArray, List.getElem_cons_succ, List.getElem_cons_zero, Act.put, List.setIfInBounds_toArray, List.set_cons_succ, List.set_cons_zero]
      refine wpAnyV_pure (i := 8) (v := .int .u8 0) (kept_and (kept_below w16) (kept_and (kept_tr (Gap w16 y6_1 u6_2) t6 (removeT wroteT (1, 1) nmA false).1) (kept_and (kept_size u6_2.heap.size) (kept_cs _ _ _)))) rfl (by kernel_rfl) (by kernel_rfl) (fun _ _ _ h => by cases h.1) (DoesV.reads (by rfl) fun w9 hS => by go_simp) ?_
      try simp only [List.getElem_toArray, List.getElem_cons_succ, List.getElem_cons_zero, Act.put, List.setIfInBounds_toArray, List.set_cons_succ, List.set_cons_zero]
      exact wpAnyV_done (by kernel_rfl) (fun z hz => ⟨rfl, g6, t6, hz.1, rfl⟩) _
    · refine wpOp_at rfl rfl ?_
      refine wp_allocS 31 rfl treeZ treeZero (fun g6 u6_7 hk hb hg => ?_)
      have HGw_g6 := Lib.hid (show w16.heap.size ≤ g6 from Nat.le_trans hy.size hg)
      refine ⟨fun u => Below w16.heap.size w16 u ∧ Cs u g6 31 treeZ.toArray, ⟨below_chain hy hb, hk⟩, kept_and (kept_below w16) (kept_cs _ _ _), fun _ u h => h.1, ?_⟩
      try simp only [List.getElem_toArray, List.getElem_cons_succ, List.getElem_cons_zero, Act.put, List.setIfInBounds_toArray, List.set_cons_succ, List.set_cons_zero]
      refine wpAnyV_all (l := [2]) (by kernel_rfl) (by decide) (fun i hi y6_8 hy => ?_)
      simp only [List.mem_cons, List.not_mem_nil, or_false] at hi
      subst hi
      refine wpOp_at rfl rfl ?_
      refine wp_of_call (f := 32) (args := #[.agg bs.toArray, .agg (hdC (1, 1)).toArray, .string ⟨#[97]⟩, .bool false]) (by go_simp) ((by have h := HK.out.remove wroteT bs (1, 1) nmA false (· < w16.heap.size) y6_8 (HT.out.below (below_chain K0_11.out hy.1)) ((TB.out.later Kt_11.out).below hy.1) ⟨by decide, by decide⟩ may_b; unfold GivesT at h; rw [gone_b] at h; exact h)) fun e u6_9 hu => ?_
      obtain ⟨t6, rfl, ht, hb⟩ := hu
      have HYs_u6_9 := Lib.hid (show w16.heap.size ≤ y6_8.heap.size from hy.1.size)
      have HGb_g6 := Lib.hid (show g6 < y6_8.heap.size from hy.2.lt)
      refine ⟨_, rfl, fun u => Below w16.heap.size w16 u ∧ Cs u g6 31 treeZ.toArray ∧ TrAt u (Gap w16 y6_8 u6_9) t6 (removeT wroteT (1, 1) nmA false).1 ∧ u6_9.heap.size ≤ u.heap.size, ⟨below_chain hy.1 hb, (kept_cs _ _ _) y6_8 u6_9 hy.2 hb, ht.gap, Nat.le_refl _⟩, kept_and (kept_below w16) (kept_and (kept_cs _ _ _) (kept_and (kept_tr (Gap w16 y6_8 u6_9) t6 (removeT wroteT (1, 1) nmA false).1) (kept_size u6_9.heap.size))), fun _ u h => ⟨h.1, h.2.1⟩, ?_⟩
      try simp only [List.getElem_toArray, List.getElem_cons_succ, List.getElem_cons_zero, Act.put, List.setIfInBounds_toArray, List.set_cons_succ, List.set_cons_zero]
      refine wpAnyV_pure (i := 3) (v := .tuple #[.agg t6.toArray, .int .u8 0]) (kept_and (kept_below w16) (kept_and (kept_cs _ _ _) (kept_and (kept_tr (Gap w16 y6_8 u6_9) t6 (removeT wroteT (1, 1) nmA false).1) (kept_size u6_9.heap.size)))) rfl (by kernel_rfl) (by kernel_rfl) (fun _ _ _ h => by cases h.1) (DoesV.reads (by rfl) fun w9 hS => by go_simp) ?_
      try simp only [List.getElem_toArray, List.getElem_cons_succ, List.getElem_cons_zero, Act.put, List.setIfInBounds_toArray, List.set_cons_succ, List.set_cons_zero]
      refine wpAnyV_pure (i := 4) (v := .agg t6.toArray) (kept_and (kept_below w16) (kept_and (kept_cs _ _ _) (kept_and (kept_tr (Gap w16 y6_8 u6_9) t6 (removeT wroteT (1, 1) nmA false).1) (kept_size u6_9.heap.size)))) rfl (by kernel_rfl) (by kernel_rfl) (fun _ _ _ h => by cases h.1) (DoesV.reads (by rfl) fun w9 hS => by go_simp) ?_
      try simp only [List.getElem_toArray, List.getElem_cons_succ, List.getElem_cons_zero, Act.put, List.setIfInBounds_toArray, List.set_cons_succ, List.set_cons_zero]
      refine wpAnyV_pure (i := 5) (v := .int .u8 0) (kept_and (kept_below w16) (kept_and (kept_cs _ _ _) (kept_and (kept_tr (Gap w16 y6_8 u6_9) t6 (removeT wroteT (1, 1) nmA false).1) (kept_size u6_9.heap.size)))) rfl (by kernel_rfl) (by kernel_rfl) (fun _ _ _ h => by cases h.1) (DoesV.reads (by rfl) fun w9 hS => by go_simp) ?_
      try simp only [List.getElem_toArray, List.getElem_cons_succ, List.getElem_cons_zero, Act.put, List.setIfInBounds_toArray, List.set_cons_succ, List.set_cons_zero]
      refine wpAnyV_all (l := [7]) (by kernel_rfl) (by decide) (fun i hi y6_10 hy => ?_)
      simp only [List.mem_cons, List.not_mem_nil, or_false] at hi
      subst hi
      refine wpOp_at rfl rfl ?_
      refine wp_storeW 31 _ _ rfl g6 rfl t6 treeZ rfl hy.2.1 (by rw [hy.2.2.1.len]; rfl) (hy.2.2.1.one) (by rw [hy.2.2.1.len]; exact infoTree) (fun u6_11 hk ht => ?_)
      refine ⟨fun u => Below w16.heap.size w16 u ∧ TrAt u (Gap w16 y6_8 u6_9) t6 (removeT wroteT (1, 1) nmA false).1 ∧ u6_9.heap.size ≤ u.heap.size ∧ Cs u g6 31 t6.toArray, ⟨below_turn hy.1 ht hy.1.size HGw_g6.out, hy.2.2.1.turn ht (fun k hk2 e => by subst e; obtain ⟨h1, h2⟩ := hk2; have h3 := HGw_g6.out; have := HGb_g6.out; omega), Nat.le_trans hy.2.2.2 ht.size, hk⟩, kept_and (kept_below w16) (kept_and (kept_tr (Gap w16 y6_8 u6_9) t6 (removeT wroteT (1, 1) nmA false).1) (kept_and (kept_size u6_9.heap.size) (kept_cs _ _ _))), fun hn => (hn (by decide)).elim, ?_⟩
      try simp only [List.getElem_toArray, List.getElem_cons_succ, List.getElem_cons_zero, Act.put, List.setIfInBounds_toArray, List.set_cons_succ, List.set_cons_zero]
      refine wpAnyV_pure (i := 8) (v := .int .u8 0) (kept_and (kept_below w16) (kept_and (kept_tr (Gap w16 y6_8 u6_9) t6 (removeT wroteT (1, 1) nmA false).1) (kept_and (kept_size u6_9.heap.size) (kept_cs _ _ _)))) rfl (by kernel_rfl) (by kernel_rfl) (fun _ _ _ h => by cases h.1) (DoesV.reads (by rfl) fun w9 hS => by go_simp) ?_
      try simp only [List.getElem_toArray, List.getElem_cons_succ, List.getElem_cons_zero, Act.put, List.setIfInBounds_toArray, List.set_cons_succ, List.set_cons_zero]
      exact wpAnyV_done (by kernel_rfl) (fun z hz => ⟨rfl, g6, t6, hz.1, rfl⟩) _
  rintro a1 w17 ⟨g6, t6, hb, rfl⟩
  try simp only [List.getElem_toArray, List.getElem_cons_succ, List.getElem_cons_zero, Act.put, List.setIfInBounds_toArray, List.set_cons_succ, List.set_cons_zero]
  have K0_12 := Lib.hid (below_chain K0_11.out hb)
  have Kn_12 := Lib.hid (below_chain Kn_11.out hb)
  have Ka_12 := Lib.hid (below_chain Ka_11.out hb)
  have Kb_12 := Lib.hid (below_chain Kb_11.out hb)
  have Kx_12 := Lib.hid (below_chain Kx_11.out hb)
  have Kt_12 := Lib.hid (below_chain Kt_11.out hb)
  have Kg_12 := Lib.hid (below_chain Kg_11.out hb)
  have Kf_12 := Lib.hid (below_chain Kf_11.out hb)
  have Kh_12 := Lib.hid (hb)
  clear hb
  go_wp2_with fail
  refine (HK.out.new w17).mono ?_
  rintro e w18 ⟨c7, rfl, ht, hb⟩
  have T7 := Lib.hid (TrAt.mono (G := fun _ => True) ht fun _ _ _ => trivial)
  have K0_13 := Lib.hid (below_chain K0_12.out hb)
  have Kn_13 := Lib.hid (below_chain Kn_12.out hb)
  have Ka_13 := Lib.hid (below_chain Ka_12.out hb)
  have Kb_13 := Lib.hid (below_chain Kb_12.out hb)
  have Kx_13 := Lib.hid (below_chain Kx_12.out hb)
  have Kt_13 := Lib.hid (below_chain Kt_12.out hb)
  have Kg_13 := Lib.hid (below_chain Kg_12.out hb)
  have Kf_13 := Lib.hid (below_chain Kf_12.out hb)
  have Kh_13 := Lib.hid (below_chain Kh_12.out hb)
  clear ht hb
  go_wp2_with fail
  refine (root_v w18).mono ?_
  rintro e w19 ⟨rfl, hb⟩
  have K0_14 := Lib.hid (below_chain K0_13.out hb)
  have Kn_14 := Lib.hid (below_chain Kn_13.out hb)
  have Ka_14 := Lib.hid (below_chain Ka_13.out hb)
  have Kb_14 := Lib.hid (below_chain Kb_13.out hb)
  have Kx_14 := Lib.hid (below_chain Kx_13.out hb)
  have Kt_14 := Lib.hid (below_chain Kt_13.out hb)
  have Kg_14 := Lib.hid (below_chain Kg_13.out hb)
  have Kf_14 := Lib.hid (below_chain Kf_13.out hb)
  have Kh_14 := Lib.hid (below_chain Kh_13.out hb)
  have Km_14 := Lib.hid (hb)
  clear hb
  go_wp2_with fail
  have hm := HK.out.remove newT c7 (1, 1) nmA false (fun _ => True) w19 (HT.out.below K0_14.out) (T7.out.below Km_14.out) ⟨by decide, by decide⟩ may_new
  unfold GivesT at hm
  rw [none_b] at hm
  refine hm.mono ?_
  clear hm
  rintro e w20 ⟨r7, rfl, ht, hb⟩
  have TR := Lib.hid ht
  have K0_15 := Lib.hid (below_chain K0_14.out hb)
  have Kn_15 := Lib.hid (below_chain Kn_14.out hb)
  have Ka_15 := Lib.hid (below_chain Ka_14.out hb)
  have Kb_15 := Lib.hid (below_chain Kb_14.out hb)
  have Kx_15 := Lib.hid (below_chain Kx_14.out hb)
  have Kt_15 := Lib.hid (below_chain Kt_14.out hb)
  have Kg_15 := Lib.hid (below_chain Kg_14.out hb)
  have Kf_15 := Lib.hid (below_chain Kf_14.out hb)
  have Kh_15 := Lib.hid (below_chain Kh_14.out hb)
  have Km_15 := Lib.hid (below_chain Km_14.out hb)
  clear ht hb
  go_wp2_with (first
    | ((with_reducible show wpList _ _ _ _ _ w20); refine wpList_allocS rfl 31 rfl treeZ treeZero ?_; intro g7 w21 hk1 hb1 hg1; go_frame; have C21 := Lib.hid hk1; have B21 := Lib.hid hb1; have G21 := Lib.hid hg1; clear hk1 hb1 hg1)
    | ((with_reducible show wpList _ _ _ _ _ w21); refine wpList_storeS rfl 31 _ _ rfl g7 rfl r7 treeZ rfl C21.out (by rw [TR.out.len]; rfl) TR.out.one (by rw [TR.out.len]; exact infoTree) ?_; intro w22 hk2 ht2; go_frame; have B22 := Lib.hid (show Below w20.heap.size w20 w22 from below_turn B21.out ht2 B21.out.size G21.out); clear hk2 ht2)
    | fail)
  have K0_16 := Lib.hid (below_chain K0_15.out B22.out)
  have Kn_16 := Lib.hid (below_chain Kn_15.out B22.out)
  have Ka_16 := Lib.hid (below_chain Ka_15.out B22.out)
  have Kb_16 := Lib.hid (below_chain Kb_15.out B22.out)
  have Kx_16 := Lib.hid (below_chain Kx_15.out B22.out)
  have Kt_16 := Lib.hid (below_chain Kt_15.out B22.out)
  have Kg_16 := Lib.hid (below_chain Kg_15.out B22.out)
  have Kf_16 := Lib.hid (below_chain Kf_15.out B22.out)
  have Kh_16 := Lib.hid (below_chain Kh_15.out B22.out)
  have Km_16 := Lib.hid (below_chain Km_15.out B22.out)
  refine code_cut (fun a a1 u => ∃ (g8 : Nat) (ms : List Value), Below w22.heap.size w22 u ∧ Cs u g8 31 ms.toArray ∧ TrAt u (· < u.heap.size) ms movedT ∧ a1 = (((((((((a.put (some 67) (.agg bs.toArray)).put (some 68) (.agg (hdC (1, 1)).toArray)).put (some 69) (.agg (hdC (1, 1)).toArray)).put (some 70) (.tuple #[.agg ms.toArray, .int .u8 0])).put (some 66) (.tuple #[.agg ms.toArray, .int .u8 0])).put (some 71) (.agg ms.toArray)).put (some 72) (.int .u8 0)).put (some 17) (.pointer (some ⟨g8, 0, none⟩))).put (some 18) (.int .u8 0))) ?_ ?_
  · refine wp_region_V [8] (Below w22.heap.size w22) hmix ((Below.refl _ _).drew) ?_
    change wpAnyV _ _ _ _ _ _ _ _ _
    refine wpAnyV_take (i := 0) (v := .agg bs.toArray) 8 (kept_below w22) rfl (by kernel_rfl) (by kernel_rfl) (fun _ _ _ h => by cases h.1) (fun _ h => h) (DoesV.loadT (by rfl) 31 _ rfl gt 0 rfl bs (fun w9 hS => At.whole ((C13.out.below Kg_16.out C13.out.lt).below hS (C13.out.below Kg_16.out C13.out.lt).lt)) _ Tryd.underlying31 rfl (by rw [TB.out.len]; exact infoTree)) ?_
    try simp only [List.getElem_toArray, List.getElem_cons_succ, List.getElem_cons_zero, Act.put, List.setIfInBounds_toArray, List.set_cons_succ, List.set_cons_zero]
    refine wpAnyV_take (i := 1) (v := .agg (hdC (1, 1)).toArray) 8 (kept_below w22) rfl (by kernel_rfl) (by kernel_rfl) (fun _ _ _ h => by cases h.1) (fun _ h => h) (DoesV.calls 6 #[] (by rfl) (fun w9 hS => by go_simp) (fun w9 hS => root_v w9)) ?_
    try simp only [List.getElem_toArray, List.getElem_cons_succ, List.getElem_cons_zero, Act.put, List.setIfInBounds_toArray, List.set_cons_succ, List.set_cons_zero]
    refine wpAnyV_take (i := 2) (v := .agg (hdC (1, 1)).toArray) 8 (kept_below w22) rfl (by kernel_rfl) (by kernel_rfl) (fun _ _ _ h => by cases h.1) (fun _ h => h) (DoesV.calls 6 #[] (by rfl) (fun w9 hS => by go_simp) (fun w9 hS => root_v w9)) ?_
    try simp only [List.getElem_toArray, List.getElem_cons_succ, List.getElem_cons_zero, Act.put, List.setIfInBounds_toArray, List.set_cons_succ, List.set_cons_zero]
    refine wpAnyV_all (l := [3, 7]) (by kernel_rfl) (by decide) (fun i hi y8_1 hy => ?_)
    simp only [List.mem_cons, List.not_mem_nil, or_false] at hi
    rcases hi with rfl | rfl
    · refine wpOp_at rfl rfl ?_
      refine wp_of_call (f := 33) (args := #[.agg bs.toArray, .agg (hdC (1, 1)).toArray, .string ⟨#[97]⟩, .agg (hdC (1, 1)).toArray, .string ⟨#[98]⟩]) (by go_simp) ((by have h := HK.out.rename wroteT bs (1, 1) nmA (1, 1) nmB (· < w22.heap.size) y8_1 (HT.out.below (below_chain K0_16.out hy)) ((TB.out.later Kt_16.out).below hy) ⟨by decide, by decide⟩ ⟨by decide, by decide⟩ may_b; rw [move_b] at h; exact h)) fun e u8_2 hu => ?_
      obtain ⟨ms, rfl, ht, hb⟩ := hu
      have HYs_u8_2 := Lib.hid (show w22.heap.size ≤ y8_1.heap.size from hy.size)
      refine ⟨_, rfl, fun u => Below w22.heap.size w22 u ∧ TrAt u (Gap w22 y8_1 u8_2) ms movedT ∧ u8_2.heap.size ≤ u.heap.size, ⟨below_chain hy hb, ht.gap, Nat.le_refl _⟩, kept_and (kept_below w22) (kept_and (kept_tr (Gap w22 y8_1 u8_2) ms movedT) (kept_size u8_2.heap.size)), fun _ u h => h.1, ?_⟩
      try simp only [List.getElem_toArray, List.getElem_cons_succ, List.getElem_cons_zero, Act.put, List.setIfInBounds_toArray, List.set_cons_succ, List.set_cons_zero]
      refine wpAnyV_pure (i := 4) (v := .tuple #[.agg ms.toArray, .int .u8 0]) (kept_and (kept_below w22) (kept_and (kept_tr (Gap w22 y8_1 u8_2) ms movedT) (kept_size u8_2.heap.size))) rfl (by kernel_rfl) (by kernel_rfl) (fun _ _ _ h => by cases h.1) (DoesV.reads (by rfl) fun w9 hS => by go_simp) ?_
      try simp only [List.getElem_toArray, List.getElem_cons_succ, List.getElem_cons_zero, Act.put, List.setIfInBounds_toArray, List.set_cons_succ, List.set_cons_zero]
      refine wpAnyV_pure (i := 5) (v := .agg ms.toArray) (kept_and (kept_below w22) (kept_and (kept_tr (Gap w22 y8_1 u8_2) ms movedT) (kept_size u8_2.heap.size))) rfl (by kernel_rfl) (by kernel_rfl) (fun _ _ _ h => by cases h.1) (DoesV.reads (by rfl) fun w9 hS => by go_simp) ?_
      try simp only [List.getElem_toArray, List.getElem_cons_succ, List.getElem_cons_zero, Act.put, List.setIfInBounds_toArray, List.set_cons_succ, List.set_cons_zero]
      refine wpAnyV_pure (i := 6) (v := .int .u8 0) (kept_and (kept_below w22) (kept_and (kept_tr (Gap w22 y8_1 u8_2) ms movedT) (kept_size u8_2.heap.size))) rfl (by kernel_rfl) (by kernel_rfl) (fun _ _ _ h => by cases h.1) (DoesV.reads (by rfl) fun w9 hS => by go_simp) ?_
      try simp only [List.getElem_toArray, List.getElem_cons_succ, List.getElem_cons_zero, Act.put, List.setIfInBounds_toArray, List.set_cons_succ, List.set_cons_zero]
      refine wpAnyV_all (l := [7]) (by kernel_rfl) (by decide) (fun i hi y8_3 hy => ?_)
      simp only [List.mem_cons, List.not_mem_nil, or_false] at hi
      subst hi
      refine wpOp_at rfl rfl ?_
      refine wp_allocS 31 rfl treeZ treeZero (fun g8 u8_4 hk hb hg => ?_)
      have HGw_g8 := Lib.hid (show w22.heap.size ≤ g8 from Nat.le_trans hy.1.size hg)
      have HGa_g8 := Lib.hid (show u8_2.heap.size ≤ g8 from Nat.le_trans hy.2.2 hg)
      refine ⟨fun u => Below w22.heap.size w22 u ∧ TrAt u (Gap w22 y8_1 u8_2) ms movedT ∧ u8_2.heap.size ≤ u.heap.size ∧ Cs u g8 31 treeZ.toArray, ⟨below_chain hy.1 hb, (kept_tr (Gap w22 y8_1 u8_2) ms movedT) y8_3 u8_4 hy.2.1 hb, (kept_size u8_2.heap.size) y8_3 u8_4 hy.2.2 hb, hk⟩, kept_and (kept_below w22) (kept_and (kept_tr (Gap w22 y8_1 u8_2) ms movedT) (kept_and (kept_size u8_2.heap.size) (kept_cs _ _ _))), fun _ u h => ⟨h.1, h.2.1, h.2.2.1⟩, ?_⟩
      try simp only [List.getElem_toArray, List.getElem_cons_succ, List.getElem_cons_zero, Act.put, List.setIfInBounds_toArray, List.set_cons_succ, List.set_cons_zero]
      refine wpAnyV_all (l := [8]) (by kernel_rfl) (by decide) (fun i hi y8_5 hy => ?_)
      simp only [List.mem_cons, List.not_mem_nil, or_false] at hi
      subst hi
      refine wpOp_at rfl rfl ?_
      refine wp_storeW 31 _ _ rfl g8 rfl ms treeZ rfl hy.2.2.2 (by rw [hy.2.1.len]; rfl) (hy.2.1.one) (by rw [hy.2.1.len]; exact infoTree) (fun u8_6 hk ht => ?_)
      refine ⟨fun u => Below w22.heap.size w22 u ∧ TrAt u (Gap w22 y8_1 u8_2) ms movedT ∧ u8_2.heap.size ≤ u.heap.size ∧ Cs u g8 31 ms.toArray, ⟨below_turn hy.1 ht hy.1.size HGw_g8.out, hy.2.1.turn ht (fun k hk2 e => by subst e; obtain ⟨h1, h2⟩ := hk2; have h3 := HGw_g8.out; have := HGa_g8.out; omega), Nat.le_trans hy.2.2.1 ht.size, hk⟩, kept_and (kept_below w22) (kept_and (kept_tr (Gap w22 y8_1 u8_2) ms movedT) (kept_and (kept_size u8_2.heap.size) (kept_cs _ _ _))), fun hn => (hn (by decide)).elim, ?_⟩
      try simp only [List.getElem_toArray, List.getElem_cons_succ, List.getElem_cons_zero, Act.put, List.setIfInBounds_toArray, List.set_cons_succ, List.set_cons_zero]
      refine wpAnyV_pure (i := 9) (v := .int .u8 0) (kept_and (kept_below w22) (kept_and (kept_tr (Gap w22 y8_1 u8_2) ms movedT) (kept_and (kept_size u8_2.heap.size) (kept_cs _ _ _)))) rfl (by kernel_rfl) (by kernel_rfl) (fun _ _ _ h => by cases h.1) (DoesV.reads (by rfl) fun w9 hS => by go_simp) ?_
      try simp only [List.getElem_toArray, List.getElem_cons_succ, List.getElem_cons_zero, Act.put, List.setIfInBounds_toArray, List.set_cons_succ, List.set_cons_zero]
      exact wpAnyV_done (by kernel_rfl) (fun z hz => ⟨rfl, g8, ms, hz.1, hz.2.2.2, hz.2.1.mono (fun k hk _ => hk), rfl⟩) _
    · refine wpOp_at rfl rfl ?_
      refine wp_allocS 31 rfl treeZ treeZero (fun g8 u8_7 hk hb hg => ?_)
      have HGw_g8 := Lib.hid (show w22.heap.size ≤ g8 from Nat.le_trans hy.size hg)
      refine ⟨fun u => Below w22.heap.size w22 u ∧ Cs u g8 31 treeZ.toArray, ⟨below_chain hy hb, hk⟩, kept_and (kept_below w22) (kept_cs _ _ _), fun _ u h => h.1, ?_⟩
      try simp only [List.getElem_toArray, List.getElem_cons_succ, List.getElem_cons_zero, Act.put, List.setIfInBounds_toArray, List.set_cons_succ, List.set_cons_zero]
      refine wpAnyV_all (l := [3]) (by kernel_rfl) (by decide) (fun i hi y8_8 hy => ?_)
      simp only [List.mem_cons, List.not_mem_nil, or_false] at hi
      subst hi
      refine wpOp_at rfl rfl ?_
      refine wp_of_call (f := 33) (args := #[.agg bs.toArray, .agg (hdC (1, 1)).toArray, .string ⟨#[97]⟩, .agg (hdC (1, 1)).toArray, .string ⟨#[98]⟩]) (by go_simp) ((by have h := HK.out.rename wroteT bs (1, 1) nmA (1, 1) nmB (· < w22.heap.size) y8_8 (HT.out.below (below_chain K0_16.out hy.1)) ((TB.out.later Kt_16.out).below hy.1) ⟨by decide, by decide⟩ ⟨by decide, by decide⟩ may_b; rw [move_b] at h; exact h)) fun e u8_9 hu => ?_
      obtain ⟨ms, rfl, ht, hb⟩ := hu
      have HYs_u8_9 := Lib.hid (show w22.heap.size ≤ y8_8.heap.size from hy.1.size)
      have HGb_g8 := Lib.hid (show g8 < y8_8.heap.size from hy.2.lt)
      refine ⟨_, rfl, fun u => Below w22.heap.size w22 u ∧ Cs u g8 31 treeZ.toArray ∧ TrAt u (Gap w22 y8_8 u8_9) ms movedT ∧ u8_9.heap.size ≤ u.heap.size, ⟨below_chain hy.1 hb, (kept_cs _ _ _) y8_8 u8_9 hy.2 hb, ht.gap, Nat.le_refl _⟩, kept_and (kept_below w22) (kept_and (kept_cs _ _ _) (kept_and (kept_tr (Gap w22 y8_8 u8_9) ms movedT) (kept_size u8_9.heap.size))), fun _ u h => ⟨h.1, h.2.1⟩, ?_⟩
      try simp only [List.getElem_toArray, List.getElem_cons_succ, List.getElem_cons_zero, Act.put, List.setIfInBounds_toArray, List.set_cons_succ, List.set_cons_zero]
      refine wpAnyV_pure (i := 4) (v := .tuple #[.agg ms.toArray, .int .u8 0]) (kept_and (kept_below w22) (kept_and (kept_cs _ _ _) (kept_and (kept_tr (Gap w22 y8_8 u8_9) ms movedT) (kept_size u8_9.heap.size)))) rfl (by kernel_rfl) (by kernel_rfl) (fun _ _ _ h => by cases h.1) (DoesV.reads (by rfl) fun w9 hS => by go_simp) ?_
      try simp only [List.getElem_toArray, List.getElem_cons_succ, List.getElem_cons_zero, Act.put, List.setIfInBounds_toArray, List.set_cons_succ, List.set_cons_zero]
      refine wpAnyV_pure (i := 5) (v := .agg ms.toArray) (kept_and (kept_below w22) (kept_and (kept_cs _ _ _) (kept_and (kept_tr (Gap w22 y8_8 u8_9) ms movedT) (kept_size u8_9.heap.size)))) rfl (by kernel_rfl) (by kernel_rfl) (fun _ _ _ h => by cases h.1) (DoesV.reads (by rfl) fun w9 hS => by go_simp) ?_
      try simp only [List.getElem_toArray, List.getElem_cons_succ, List.getElem_cons_zero, Act.put, List.setIfInBounds_toArray, List.set_cons_succ, List.set_cons_zero]
      refine wpAnyV_pure (i := 6) (v := .int .u8 0) (kept_and (kept_below w22) (kept_and (kept_cs _ _ _) (kept_and (kept_tr (Gap w22 y8_8 u8_9) ms movedT) (kept_size u8_9.heap.size)))) rfl (by kernel_rfl) (by kernel_rfl) (fun _ _ _ h => by cases h.1) (DoesV.reads (by rfl) fun w9 hS => by go_simp) ?_
      try simp only [List.getElem_toArray, List.getElem_cons_succ, List.getElem_cons_zero, Act.put, List.setIfInBounds_toArray, List.set_cons_succ, List.set_cons_zero]
      refine wpAnyV_all (l := [8]) (by kernel_rfl) (by decide) (fun i hi y8_10 hy => ?_)
      simp only [List.mem_cons, List.not_mem_nil, or_false] at hi
      subst hi
      refine wpOp_at rfl rfl ?_
      refine wp_storeW 31 _ _ rfl g8 rfl ms treeZ rfl hy.2.1 (by rw [hy.2.2.1.len]; rfl) (hy.2.2.1.one) (by rw [hy.2.2.1.len]; exact infoTree) (fun u8_11 hk ht => ?_)
      refine ⟨fun u => Below w22.heap.size w22 u ∧ TrAt u (Gap w22 y8_8 u8_9) ms movedT ∧ u8_9.heap.size ≤ u.heap.size ∧ Cs u g8 31 ms.toArray, ⟨below_turn hy.1 ht hy.1.size HGw_g8.out, hy.2.2.1.turn ht (fun k hk2 e => by subst e; obtain ⟨h1, h2⟩ := hk2; have h3 := HGw_g8.out; have := HGb_g8.out; omega), Nat.le_trans hy.2.2.2 ht.size, hk⟩, kept_and (kept_below w22) (kept_and (kept_tr (Gap w22 y8_8 u8_9) ms movedT) (kept_and (kept_size u8_9.heap.size) (kept_cs _ _ _))), fun hn => (hn (by decide)).elim, ?_⟩
      try simp only [List.getElem_toArray, List.getElem_cons_succ, List.getElem_cons_zero, Act.put, List.setIfInBounds_toArray, List.set_cons_succ, List.set_cons_zero]
      refine wpAnyV_pure (i := 9) (v := .int .u8 0) (kept_and (kept_below w22) (kept_and (kept_tr (Gap w22 y8_8 u8_9) ms movedT) (kept_and (kept_size u8_9.heap.size) (kept_cs _ _ _)))) rfl (by kernel_rfl) (by kernel_rfl) (fun _ _ _ h => by cases h.1) (DoesV.reads (by rfl) fun w9 hS => by go_simp) ?_
      try simp only [List.getElem_toArray, List.getElem_cons_succ, List.getElem_cons_zero, Act.put, List.setIfInBounds_toArray, List.set_cons_succ, List.set_cons_zero]
      exact wpAnyV_done (by kernel_rfl) (fun z hz => ⟨rfl, g8, ms, hz.1, hz.2.2.2, hz.2.1.mono (fun k hk _ => hk), rfl⟩) _
  rintro a1 w23 ⟨g8, ms, hb, hc, ht, rfl⟩
  try simp only [List.getElem_toArray, List.getElem_cons_succ, List.getElem_cons_zero, Act.put, List.setIfInBounds_toArray, List.set_cons_succ, List.set_cons_zero]
  have CM := Lib.hid hc
  have TM := Lib.hid ht
  have K0_17 := Lib.hid (below_chain K0_16.out hb)
  have Kn_17 := Lib.hid (below_chain Kn_16.out hb)
  have Ka_17 := Lib.hid (below_chain Ka_16.out hb)
  have Kb_17 := Lib.hid (below_chain Kb_16.out hb)
  have Kx_17 := Lib.hid (below_chain Kx_16.out hb)
  have Kt_17 := Lib.hid (below_chain Kt_16.out hb)
  have Kg_17 := Lib.hid (below_chain Kg_16.out hb)
  have Kf_17 := Lib.hid (below_chain Kf_16.out hb)
  have Kh_17 := Lib.hid (below_chain Kh_16.out hb)
  have Km_17 := Lib.hid (below_chain Km_16.out hb)
  clear hb hc ht
  go_wp2_with fail
  refine code_cut (fun a a1 u => ∃ (g9 : Nat) (ls : List Value), Below w23.heap.size w23 u ∧ Cs u g9 34 ls.toArray ∧ NdAt u (· < u.heap.size) ls (lookupT movedT (1, 1) nmB).1 ∧ a1 = ((((((((a.put (some 74) (.agg ms.toArray)).put (some 75) (.agg (hdC (1, 1)).toArray)).put (some 76) (.tuple #[.agg ls.toArray, .int .u8 0])).put (some 73) (.tuple #[.agg ls.toArray, .int .u8 0])).put (some 77) (.agg ls.toArray)).put (some 78) (.int .u8 0)).put (some 19) (.pointer (some ⟨g9, 0, none⟩))).put (some 20) (.int .u8 0))) ?_ ?_
  · refine wp_region_V [7] (Below w23.heap.size w23) hmix ((Below.refl _ _).drew) ?_
    change wpAnyV _ _ _ _ _ _ _ _ _
    refine wpAnyV_take (i := 0) (v := .agg ms.toArray) 8 (kept_below w23) rfl (by kernel_rfl) (by kernel_rfl) (fun _ _ _ h => by cases h.1) (fun _ h => h) (DoesV.loadT (by rfl) 31 _ rfl g8 0 rfl ms (fun w9 hS => At.whole (CM.out.below hS CM.out.lt)) _ Tryd.underlying31 rfl (by rw [TM.out.len]; exact infoTree)) ?_
    try simp only [List.getElem_toArray, List.getElem_cons_succ, List.getElem_cons_zero, Act.put, List.setIfInBounds_toArray, List.set_cons_succ, List.set_cons_zero]
    refine wpAnyV_take (i := 1) (v := .agg (hdC (1, 1)).toArray) 8 (kept_below w23) rfl (by kernel_rfl) (by kernel_rfl) (fun _ _ _ h => by cases h.1) (fun _ h => h) (DoesV.calls 6 #[] (by rfl) (fun w9 hS => by go_simp) (fun w9 hS => root_v w9)) ?_
    try simp only [List.getElem_toArray, List.getElem_cons_succ, List.getElem_cons_zero, Act.put, List.setIfInBounds_toArray, List.set_cons_succ, List.set_cons_zero]
    refine wpAnyV_all (l := [2, 6]) (by kernel_rfl) (by decide) (fun i hi y9_1 hy => ?_)
    simp only [List.mem_cons, List.not_mem_nil, or_false] at hi
    rcases hi with rfl | rfl
    · refine wpOp_at rfl rfl ?_
      refine wp_of_call (f := 31) (args := #[.agg ms.toArray, .agg (hdC (1, 1)).toArray, .string ⟨#[98]⟩]) (by go_simp) ((by have h := HK.out.lookup movedT ms (1, 1) nmB (· < w23.heap.size) y9_1 (HT.out.below (below_chain K0_17.out hy)) (TM.out.below hy) ⟨by decide, by decide⟩ may_c; rw [look_c.1] at h; exact h)) fun e u9_2 hu => ?_
      obtain ⟨ls, rfl, hn, hb⟩ := hu
      have HYs_u9_2 := Lib.hid (show w23.heap.size ≤ y9_1.heap.size from hy.size)
      refine ⟨_, rfl, fun u => Below w23.heap.size w23 u ∧ NdAt u (Gap w23 y9_1 u9_2) ls (lookupT movedT (1, 1) nmB).1 ∧ u9_2.heap.size ≤ u.heap.size, ⟨below_chain hy hb, hn.gap, Nat.le_refl _⟩, kept_and (kept_below w23) (kept_and (kept_nd (Gap w23 y9_1 u9_2) ls (lookupT movedT (1, 1) nmB).1) (kept_size u9_2.heap.size)), fun _ u h => h.1, ?_⟩
      try simp only [List.getElem_toArray, List.getElem_cons_succ, List.getElem_cons_zero, Act.put, List.setIfInBounds_toArray, List.set_cons_succ, List.set_cons_zero]
      refine wpAnyV_pure (i := 3) (v := .tuple #[.agg ls.toArray, .int .u8 0]) (kept_and (kept_below w23) (kept_and (kept_nd (Gap w23 y9_1 u9_2) ls (lookupT movedT (1, 1) nmB).1) (kept_size u9_2.heap.size))) rfl (by kernel_rfl) (by kernel_rfl) (fun _ _ _ h => by cases h.1) (DoesV.reads (by rfl) fun w9 hS => by go_simp) ?_
      try simp only [List.getElem_toArray, List.getElem_cons_succ, List.getElem_cons_zero, Act.put, List.setIfInBounds_toArray, List.set_cons_succ, List.set_cons_zero]
      refine wpAnyV_pure (i := 4) (v := .agg ls.toArray) (kept_and (kept_below w23) (kept_and (kept_nd (Gap w23 y9_1 u9_2) ls (lookupT movedT (1, 1) nmB).1) (kept_size u9_2.heap.size))) rfl (by kernel_rfl) (by kernel_rfl) (fun _ _ _ h => by cases h.1) (DoesV.reads (by rfl) fun w9 hS => by go_simp) ?_
      try simp only [List.getElem_toArray, List.getElem_cons_succ, List.getElem_cons_zero, Act.put, List.setIfInBounds_toArray, List.set_cons_succ, List.set_cons_zero]
      refine wpAnyV_pure (i := 5) (v := .int .u8 0) (kept_and (kept_below w23) (kept_and (kept_nd (Gap w23 y9_1 u9_2) ls (lookupT movedT (1, 1) nmB).1) (kept_size u9_2.heap.size))) rfl (by kernel_rfl) (by kernel_rfl) (fun _ _ _ h => by cases h.1) (DoesV.reads (by rfl) fun w9 hS => by go_simp) ?_
      try simp only [List.getElem_toArray, List.getElem_cons_succ, List.getElem_cons_zero, Act.put, List.setIfInBounds_toArray, List.set_cons_succ, List.set_cons_zero]
      refine wpAnyV_all (l := [6]) (by kernel_rfl) (by decide) (fun i hi y9_3 hy => ?_)
      simp only [List.mem_cons, List.not_mem_nil, or_false] at hi
      subst hi
      refine wpOp_at rfl rfl ?_
      refine wp_allocS 34 rfl nodeZ nodeZero (fun g9 u9_4 hk hb hg => ?_)
      have HGw_g9 := Lib.hid (show w23.heap.size ≤ g9 from Nat.le_trans hy.1.size hg)
      have HGa_g9 := Lib.hid (show u9_2.heap.size ≤ g9 from Nat.le_trans hy.2.2 hg)
      refine ⟨fun u => Below w23.heap.size w23 u ∧ NdAt u (Gap w23 y9_1 u9_2) ls (lookupT movedT (1, 1) nmB).1 ∧ u9_2.heap.size ≤ u.heap.size ∧ Cs u g9 34 nodeZ.toArray, ⟨below_chain hy.1 hb, (kept_nd (Gap w23 y9_1 u9_2) ls (lookupT movedT (1, 1) nmB).1) y9_3 u9_4 hy.2.1 hb, (kept_size u9_2.heap.size) y9_3 u9_4 hy.2.2 hb, hk⟩, kept_and (kept_below w23) (kept_and (kept_nd (Gap w23 y9_1 u9_2) ls (lookupT movedT (1, 1) nmB).1) (kept_and (kept_size u9_2.heap.size) (kept_cs _ _ _))), fun _ u h => ⟨h.1, h.2.1, h.2.2.1⟩, ?_⟩
      try simp only [List.getElem_toArray, List.getElem_cons_succ, List.getElem_cons_zero, Act.put, List.setIfInBounds_toArray, List.set_cons_succ, List.set_cons_zero]
      refine wpAnyV_all (l := [7]) (by kernel_rfl) (by decide) (fun i hi y9_5 hy => ?_)
      simp only [List.mem_cons, List.not_mem_nil, or_false] at hi
      subst hi
      refine wpOp_at rfl rfl ?_
      refine wp_storeW 34 _ _ rfl g9 rfl ls nodeZ rfl hy.2.2.2 (by rw [hy.2.1.len]; rfl) (hy.2.1.one) (by rw [hy.2.1.len]; exact infoNode) (fun u9_6 hk ht => ?_)
      refine ⟨fun u => Below w23.heap.size w23 u ∧ NdAt u (Gap w23 y9_1 u9_2) ls (lookupT movedT (1, 1) nmB).1 ∧ u9_2.heap.size ≤ u.heap.size ∧ Cs u g9 34 ls.toArray, ⟨below_turn hy.1 ht hy.1.size HGw_g9.out, hy.2.1.turn ht (fun k hk2 e => by subst e; obtain ⟨h1, h2⟩ := hk2; have h3 := HGw_g9.out; have := HGa_g9.out; omega), Nat.le_trans hy.2.2.1 ht.size, hk⟩, kept_and (kept_below w23) (kept_and (kept_nd (Gap w23 y9_1 u9_2) ls (lookupT movedT (1, 1) nmB).1) (kept_and (kept_size u9_2.heap.size) (kept_cs _ _ _))), fun hn => (hn (by decide)).elim, ?_⟩
      try simp only [List.getElem_toArray, List.getElem_cons_succ, List.getElem_cons_zero, Act.put, List.setIfInBounds_toArray, List.set_cons_succ, List.set_cons_zero]
      refine wpAnyV_pure (i := 8) (v := .int .u8 0) (kept_and (kept_below w23) (kept_and (kept_nd (Gap w23 y9_1 u9_2) ls (lookupT movedT (1, 1) nmB).1) (kept_and (kept_size u9_2.heap.size) (kept_cs _ _ _)))) rfl (by kernel_rfl) (by kernel_rfl) (fun _ _ _ h => by cases h.1) (DoesV.reads (by rfl) fun w9 hS => by go_simp) ?_
      try simp only [List.getElem_toArray, List.getElem_cons_succ, List.getElem_cons_zero, Act.put, List.setIfInBounds_toArray, List.set_cons_succ, List.set_cons_zero]
      exact wpAnyV_done (by kernel_rfl) (fun z hz => ⟨rfl, g9, ls, hz.1, hz.2.2.2, hz.2.1.mono (fun k hk _ => hk), rfl⟩) _
    · refine wpOp_at rfl rfl ?_
      refine wp_allocS 34 rfl nodeZ nodeZero (fun g9 u9_7 hk hb hg => ?_)
      have HGw_g9 := Lib.hid (show w23.heap.size ≤ g9 from Nat.le_trans hy.size hg)
      refine ⟨fun u => Below w23.heap.size w23 u ∧ Cs u g9 34 nodeZ.toArray, ⟨below_chain hy hb, hk⟩, kept_and (kept_below w23) (kept_cs _ _ _), fun _ u h => h.1, ?_⟩
      try simp only [List.getElem_toArray, List.getElem_cons_succ, List.getElem_cons_zero, Act.put, List.setIfInBounds_toArray, List.set_cons_succ, List.set_cons_zero]
      refine wpAnyV_all (l := [2]) (by kernel_rfl) (by decide) (fun i hi y9_8 hy => ?_)
      simp only [List.mem_cons, List.not_mem_nil, or_false] at hi
      subst hi
      refine wpOp_at rfl rfl ?_
      refine wp_of_call (f := 31) (args := #[.agg ms.toArray, .agg (hdC (1, 1)).toArray, .string ⟨#[98]⟩]) (by go_simp) ((by have h := HK.out.lookup movedT ms (1, 1) nmB (· < w23.heap.size) y9_8 (HT.out.below (below_chain K0_17.out hy.1)) (TM.out.below hy.1) ⟨by decide, by decide⟩ may_c; rw [look_c.1] at h; exact h)) fun e u9_9 hu => ?_
      obtain ⟨ls, rfl, hn, hb⟩ := hu
      have HYs_u9_9 := Lib.hid (show w23.heap.size ≤ y9_8.heap.size from hy.1.size)
      have HGb_g9 := Lib.hid (show g9 < y9_8.heap.size from hy.2.lt)
      refine ⟨_, rfl, fun u => Below w23.heap.size w23 u ∧ Cs u g9 34 nodeZ.toArray ∧ NdAt u (Gap w23 y9_8 u9_9) ls (lookupT movedT (1, 1) nmB).1 ∧ u9_9.heap.size ≤ u.heap.size, ⟨below_chain hy.1 hb, (kept_cs _ _ _) y9_8 u9_9 hy.2 hb, hn.gap, Nat.le_refl _⟩, kept_and (kept_below w23) (kept_and (kept_cs _ _ _) (kept_and (kept_nd (Gap w23 y9_8 u9_9) ls (lookupT movedT (1, 1) nmB).1) (kept_size u9_9.heap.size))), fun _ u h => ⟨h.1, h.2.1⟩, ?_⟩
      try simp only [List.getElem_toArray, List.getElem_cons_succ, List.getElem_cons_zero, Act.put, List.setIfInBounds_toArray, List.set_cons_succ, List.set_cons_zero]
      refine wpAnyV_pure (i := 3) (v := .tuple #[.agg ls.toArray, .int .u8 0]) (kept_and (kept_below w23) (kept_and (kept_cs _ _ _) (kept_and (kept_nd (Gap w23 y9_8 u9_9) ls (lookupT movedT (1, 1) nmB).1) (kept_size u9_9.heap.size)))) rfl (by kernel_rfl) (by kernel_rfl) (fun _ _ _ h => by cases h.1) (DoesV.reads (by rfl) fun w9 hS => by go_simp) ?_
      try simp only [List.getElem_toArray, List.getElem_cons_succ, List.getElem_cons_zero, Act.put, List.setIfInBounds_toArray, List.set_cons_succ, List.set_cons_zero]
      refine wpAnyV_pure (i := 4) (v := .agg ls.toArray) (kept_and (kept_below w23) (kept_and (kept_cs _ _ _) (kept_and (kept_nd (Gap w23 y9_8 u9_9) ls (lookupT movedT (1, 1) nmB).1) (kept_size u9_9.heap.size)))) rfl (by kernel_rfl) (by kernel_rfl) (fun _ _ _ h => by cases h.1) (DoesV.reads (by rfl) fun w9 hS => by go_simp) ?_
      try simp only [List.getElem_toArray, List.getElem_cons_succ, List.getElem_cons_zero, Act.put, List.setIfInBounds_toArray, List.set_cons_succ, List.set_cons_zero]
      refine wpAnyV_pure (i := 5) (v := .int .u8 0) (kept_and (kept_below w23) (kept_and (kept_cs _ _ _) (kept_and (kept_nd (Gap w23 y9_8 u9_9) ls (lookupT movedT (1, 1) nmB).1) (kept_size u9_9.heap.size)))) rfl (by kernel_rfl) (by kernel_rfl) (fun _ _ _ h => by cases h.1) (DoesV.reads (by rfl) fun w9 hS => by go_simp) ?_
      try simp only [List.getElem_toArray, List.getElem_cons_succ, List.getElem_cons_zero, Act.put, List.setIfInBounds_toArray, List.set_cons_succ, List.set_cons_zero]
      refine wpAnyV_all (l := [7]) (by kernel_rfl) (by decide) (fun i hi y9_10 hy => ?_)
      simp only [List.mem_cons, List.not_mem_nil, or_false] at hi
      subst hi
      refine wpOp_at rfl rfl ?_
      refine wp_storeW 34 _ _ rfl g9 rfl ls nodeZ rfl hy.2.1 (by rw [hy.2.2.1.len]; rfl) (hy.2.2.1.one) (by rw [hy.2.2.1.len]; exact infoNode) (fun u9_11 hk ht => ?_)
      refine ⟨fun u => Below w23.heap.size w23 u ∧ NdAt u (Gap w23 y9_8 u9_9) ls (lookupT movedT (1, 1) nmB).1 ∧ u9_9.heap.size ≤ u.heap.size ∧ Cs u g9 34 ls.toArray, ⟨below_turn hy.1 ht hy.1.size HGw_g9.out, hy.2.2.1.turn ht (fun k hk2 e => by subst e; obtain ⟨h1, h2⟩ := hk2; have h3 := HGw_g9.out; have := HGb_g9.out; omega), Nat.le_trans hy.2.2.2 ht.size, hk⟩, kept_and (kept_below w23) (kept_and (kept_nd (Gap w23 y9_8 u9_9) ls (lookupT movedT (1, 1) nmB).1) (kept_and (kept_size u9_9.heap.size) (kept_cs _ _ _))), fun hn => (hn (by decide)).elim, ?_⟩
      try simp only [List.getElem_toArray, List.getElem_cons_succ, List.getElem_cons_zero, Act.put, List.setIfInBounds_toArray, List.set_cons_succ, List.set_cons_zero]
      refine wpAnyV_pure (i := 8) (v := .int .u8 0) (kept_and (kept_below w23) (kept_and (kept_nd (Gap w23 y9_8 u9_9) ls (lookupT movedT (1, 1) nmB).1) (kept_and (kept_size u9_9.heap.size) (kept_cs _ _ _)))) rfl (by kernel_rfl) (by kernel_rfl) (fun _ _ _ h => by cases h.1) (DoesV.reads (by rfl) fun w9 hS => by go_simp) ?_
      try simp only [List.getElem_toArray, List.getElem_cons_succ, List.getElem_cons_zero, Act.put, List.setIfInBounds_toArray, List.set_cons_succ, List.set_cons_zero]
      exact wpAnyV_done (by kernel_rfl) (fun z hz => ⟨rfl, g9, ls, hz.1, hz.2.2.2, hz.2.1.mono (fun k hk _ => hk), rfl⟩) _
  rintro a1 w24 ⟨g9, ls, hb, hc, hn, rfl⟩
  try simp only [List.getElem_toArray, List.getElem_cons_succ, List.getElem_cons_zero, Act.put, List.setIfInBounds_toArray, List.set_cons_succ, List.set_cons_zero]
  have C9 := Lib.hid hc
  have N9 := Lib.hid hn
  have K0_18 := Lib.hid (below_chain K0_17.out hb)
  have Kn_18 := Lib.hid (below_chain Kn_17.out hb)
  have Ka_18 := Lib.hid (below_chain Ka_17.out hb)
  have Kb_18 := Lib.hid (below_chain Kb_17.out hb)
  have Kx_18 := Lib.hid (below_chain Kx_17.out hb)
  have Kt_18 := Lib.hid (below_chain Kt_17.out hb)
  have Kg_18 := Lib.hid (below_chain Kg_17.out hb)
  have Kf_18 := Lib.hid (below_chain Kf_17.out hb)
  have Kh_18 := Lib.hid (below_chain Kh_17.out hb)
  have Km_18 := Lib.hid (below_chain Km_17.out hb)
  have Kr_18 := Lib.hid (hb)
  clear hb hc hn
  have h2 := NA.out
  obtain ⟨dv2, nv2, e2, -⟩ := h2
  have h4 := NX.out
  obtain ⟨dv4, nv4, e4, -⟩ := h4
  have h9 := N9.out
  obtain ⟨dv9, nv9, e9, -⟩ := h9
  have hf := NF.out
  obtain ⟨dvf, nvf, ef, hbf, -⟩ := hf
  obtain ⟨Af, cf, rfl, rf, -⟩ := hbf
  have q20 : w24.cell? ⟨gn, 0, none⟩ = some (.int .u32 2) := by have h := (C7.out.below Kb_18.out C7.out.lt).cell 0 (v := .int .u32 2) (by rw [e2]; rfl); exact h
  have q21 : w24.cell? ⟨gn, 1, none⟩ = some (.int .u32 2) := by have h := (C7.out.below Kb_18.out C7.out.lt).cell 1 (v := .int .u32 2) (by rw [e2]; rfl); exact h
  have q40 : w24.cell? ⟨gx, 0, none⟩ = some (.int .u32 2) := by have h := (CX.out.below Kx_18.out CX.out.lt).cell 0 (v := .int .u32 2) (by rw [e4]; rfl); exact h
  have q90 : w24.cell? ⟨g9, 0, none⟩ = some (.int .u32 2) := by have h := C9.out.cell 0 (v := .int .u32 2) (by rw [e9, ndC, look_c.2]; rfl); exact h
  have qf4 : w24.cell? ⟨gf, 4, none⟩ = some (.slice Af 5 cf) := by have h := (C16.out.below Kh_18.out C16.out.lt).cell 4 (v := .slice Af 5 cf) (by rw [ef]; rfl); exact h
  have RF := Lib.hid (rf.rd.below Kf_18.out)
  clear e2 e4 e9 ef rf
  go_wp2_with (first
    | ((with_reducible show wpList _ _ _ _ _ w24); refine wpList_buildB5 (by rfl) _ _ _ _ _ rfl 0 0 0 7 8 rfl rfl rfl rfl rfl ?_; intro gz w25 hk1 hb1; go_frame; have D25 := Lib.hid hk1; have B25 := Lib.hid hb1; have q91 : w25.cell? ⟨g9, 0, none⟩ = some (.int .u32 2) := (hb1.cell (p := ⟨g9, 0, none⟩) C9.out.lt).trans q90; clear hk1 hb1)
    | fail)
  have K0_19 := Lib.hid (below_chain K0_18.out B25.out)
  have Kn_19 := Lib.hid (below_chain Kn_18.out B25.out)
  have Ka_19 := Lib.hid (below_chain Ka_18.out B25.out)
  have Kb_19 := Lib.hid (below_chain Kb_18.out B25.out)
  have Kx_19 := Lib.hid (below_chain Kx_18.out B25.out)
  have Kt_19 := Lib.hid (below_chain Kt_18.out B25.out)
  have Kg_19 := Lib.hid (below_chain Kg_18.out B25.out)
  have Kf_19 := Lib.hid (below_chain Kf_18.out B25.out)
  have Kh_19 := Lib.hid (below_chain Kh_18.out B25.out)
  have Km_19 := Lib.hid (below_chain Km_18.out B25.out)
  have Kr_19 := Lib.hid (below_chain Kr_18.out B25.out)
  have HZ := Lib.hid (show Rd w25 (some ⟨gz, 0, none⟩) [0, 0, 0, 7, 8] from by obtain ⟨Az, cz, ez, rz, -⟩ := D25.out; cases ez; exact rz.rd)
  refine (Same_any Af (some ⟨gz, 0, none⟩) [0, 0, 0, 7, 8] [0, 0, 0, 7, 8] cf 5 w25 (RF.out.below B25.out) HZ.out).mono ?_
  rintro e w26 ⟨e1, e2⟩
  rw [show (([0, 0, 0, 7, 8] : List UInt8) == [0, 0, 0, 7, 8]) = true from by decide] at e1
  subst e1
  subst e2
  go_wp2_with fail
  go_ret
  exact ⟨by first | rfl | simp, K0_19.out⟩

end Go.Proofs.YtenpmbfncnepgaaDoor
