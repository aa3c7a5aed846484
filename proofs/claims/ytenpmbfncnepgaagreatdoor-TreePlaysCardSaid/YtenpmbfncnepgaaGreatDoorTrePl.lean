/- TreePlays: the walk. -/
import Derived.Test.YtenpmbfncnepgaaGreatDoorTrePp
namespace Go.Proofs.YtenpmbfncnepgaaGreatDoor
open Go.RowKit Go.Shelf
set_option linter.unusedVariables false
set_option maxRecDepth 100000
set_option linter.unusedSimpArgs false

set_option maxHeartbeats 32000000 in
theorem plays13_walk (K : K13) (K2 : K13S) (l : List Ac) (A : Option Addr) (c : Nat) (w : World) (hT : Tabs w) (hr : RdX actE w (fun _ => True) A l) (hl : (l.length : Int) ≤ 9223372036854775807) :
    Calls Tryz.prog 3 #[.slice A l.length c] w fun e w' => e = .returned (.bool true) ∧ Below w.heap.size w w' := by
  have HK := Lib.hid K
  have HT := Lib.hid hT
  have HR := Lib.hid hr
  have hmix : Tryz.prog.follows .mixedOrders = true := by kernel_rfl
  have HK2 := Lib.hid K2
  clear K K2 hT hr
  go_enter Tryz.func3, Tryz.ntmps3
  go_wp2_with fail
  refine (HK.out.new w).mono ?_
  rintro e w1 ⟨c0, rfl, ht, hb⟩
  have T1 := Lib.hid (show TrAt w1 (· < w1.heap.size) c0 newT from ht.mono fun k hk _ => hk)
  have B1 := Lib.hid hb
  clear ht hb
  go_wp2_with (first
    | ((with_reducible show wpList _ _ _ _ _ w1); refine wpList_allocS rfl 31 rfl treeZ treeZero ?_; intro g3 w2 hk1 hb1 hg1; go_frame; have C2 := Lib.hid hk1; have B2 := Lib.hid hb1; have G2 := Lib.hid hg1; clear hk1 hb1 hg1)
    | ((with_reducible show wpList _ _ _ _ _ w2); refine wpList_storeS rfl 31 _ _ rfl g3 rfl c0 treeZ rfl C2.out (by rw [T1.out.len]; rfl) T1.out.one (by rw [T1.out.len]; exact infoTree) ?_; intro w3 hk2 ht2; go_frame; have C3 := Lib.hid hk2; have B3 := Lib.hid (show Below w1.heap.size w1 w3 from below_turn B2.out ht2 B2.out.size G2.out); clear hk2 ht2)
    | fail)
  have B13 := Lib.hid (below_chain B1.out B3.out)
  have HG := Lib.hid (show w.heap.size ≤ g3 from Nat.le_trans B1.out.size G2.out)
  have T3 := Lib.hid (show TrAt w3 (fun k => k ≠ g3 ∧ k < w3.heap.size) c0 newT from (T1.out.below B3.out).mono fun k hk h => ⟨by have := G2.out; omega, hk⟩)
  go_loopw [4] (fun j wr => ∃ (k : Nat) (t : Tr) (cs : List Value), j = .int .i64 k ∧ k ≤ l.length ∧ MayT t ∧ Cs wr g3 31 cs.toArray ∧ TrAt wr (fun k => k ≠ g3 ∧ k < wr.heap.size) cs t ∧ Below w.heap.size w wr) (fun j _ => l.length - (RowKit.intOf j).toNat)
  case atStart => exact ⟨0, newT, c0, rfl, Nat.zero_le _, may_new, C3.out, T3.out, B13.out⟩
  case round =>
    obtain ⟨k, t, cs, rfl, hk, hm, hc, ht, hb⟩ := hrel
    have HM := Lib.hid hm
    have HC := Lib.hid hc
    have HTR := Lib.hid ht
    have HB := Lib.hid hb
    clear hm hc ht hb
    by_cases hlt : k < l.length
    · by_cases h60 : k < 60
      · have i60 : (k : Int) < 60 := by omega
        obtain ⟨b, off, xs, rfl, hat, hel⟩ := (HR.out.below HB.out).get k hlt
        have HAT := Lib.hid hel
        have HAC := Lib.hid hat
        have HLN := Lib.hid (show xs.length = 9 from actE.len hat)
        have HS := Lib.hid (act_step HM.out l[k])
        generalize l[k] = x at *
        clear hat hel h60
        go_wp2_with fail
        refine code_cut (fun a a1 u => ∃ (g5 : Nat) (ts : List Value), Below wr.heap.size wr u ∧ Cs u g5 31 ts.toArray ∧ TrAt u (fun k => k ≠ g3 ∧ k < u.heap.size) ts (actT t x).1 ∧ wr.heap.size ≤ g5 ∧ a1 = (((((((((((a.put (some 23) (.agg cs.toArray)).put (some 24) (.slice (some ⟨b, off, none⟩) l.length c)).put (some 25) (.int .i64 (k : Int))).put (some 26) (.pointer (some ⟨b, off + k * 9, none⟩))).put (some 27) (.agg xs.toArray)).put (some 28) (.tuple #[.agg ts.toArray, .int .u8 ((actT t x).2 : Int)])).put (some 22) (.tuple #[.agg ts.toArray, .int .u8 ((actT t x).2 : Int)])).put (some 29) (.agg ts.toArray)).put (some 30) (.int .u8 ((actT t x).2 : Int))).put (some 5) (.pointer (some ⟨g5, 0, none⟩))).put (some 6) (.int .u8 ((actT t x).2 : Int)))) ?_ ?_
        · refine wp_region_V [10] (Below wr.heap.size wr) hmix ((Below.refl _ _).drew) ?_
          change wpAnyV _ _ _ _ _ _ _ _ _
          refine wpAnyV_take (i := 0) (v := .agg cs.toArray) 8 (kept_below wr) rfl (by kernel_rfl) (by kernel_rfl) (fun _ _ _ h => by cases h.1) (fun _ h => h) (DoesV.loadT (by rfl) 31 _ rfl g3 0 rfl cs (fun w9 hS => At.whole (HC.out.below hS HC.out.lt)) _ Tryz.underlying31 rfl (by rw [HTR.out.len]; exact infoTree)) ?_
          try simp only [List.getElem_toArray, List.getElem_cons_succ, List.getElem_cons_zero, Act.put, List.setIfInBounds_toArray, List.set_cons_succ, List.set_cons_zero]
          refine wpAnyV_pure (i := 1) (v := .slice (some ⟨b, off, none⟩) l.length c) (kept_below wr) rfl (by kernel_rfl) (by kernel_rfl) (fun _ _ _ h => by cases h.1) (DoesV.reads (by rfl) fun w9 hS => by go_simp) ?_
          try simp only [List.getElem_toArray, List.getElem_cons_succ, List.getElem_cons_zero, Act.put, List.setIfInBounds_toArray, List.set_cons_succ, List.set_cons_zero]
          refine wpAnyV_pure (i := 2) (v := .int .i64 (k : Int)) (kept_below wr) rfl (by kernel_rfl) (by kernel_rfl) (fun _ _ _ h => by cases h.1) (DoesV.reads (by rfl) fun w9 hS => by go_simp) ?_
          try simp only [List.getElem_toArray, List.getElem_cons_succ, List.getElem_cons_zero, Act.put, List.setIfInBounds_toArray, List.set_cons_succ, List.set_cons_zero]
          refine wpAnyV_pure (i := 3) (v := .pointer (some ⟨b, off + k * 9, none⟩)) (kept_below wr) rfl (by kernel_rfl) (by kernel_rfl) (fun _ _ _ h => by cases h.1) (DoesV.reads (by rfl) fun w9 hS => by go_simp) ?_
          try simp only [List.getElem_toArray, List.getElem_cons_succ, List.getElem_cons_zero, Act.put, List.setIfInBounds_toArray, List.set_cons_succ, List.set_cons_zero]
          refine wpAnyV_take (i := 4) (v := .agg xs.toArray) 8 (kept_below wr) rfl (by kernel_rfl) (by kernel_rfl) (fun _ _ _ h => by cases h.1) (fun _ h => h) (DoesV.loadT (by rfl) 38 _ rfl b (off + k * 9) rfl xs (fun w9 hS => At.later HAT.out hS) _ Tryz.underlying38 rfl (by rw [HLN.out]; exact infoAct)) ?_
          try simp only [List.getElem_toArray, List.getElem_cons_succ, List.getElem_cons_zero, Act.put, List.setIfInBounds_toArray, List.set_cons_succ, List.set_cons_zero]
          refine wpAnyV_all (l := [5, 9]) (by kernel_rfl) (by decide) (fun i hi y5_1 hy => ?_)
          simp only [List.mem_cons, List.not_mem_nil, or_false] at hi
          rcases hi with rfl | rfl
          · refine wpOp_at rfl rfl ?_
            refine wp_of_call (f := 5) (args := #[.agg cs.toArray, .agg xs.toArray]) (by go_simp) (Does_v HK.out t cs x xs (fun k => k ≠ g3 ∧ k < wr.heap.size) y5_1 ((HT.out.below HB.out).below hy) HM.out (HTR.out.below hy) (fun k hk => Nat.lt_of_lt_of_le hk.2 hy.size) (actE.turn HAC.out (Turn.of_below hy fun _ => False) fun _ _ h => h)) fun e u5_2 hu => ?_
            obtain ⟨ts, rfl, ht, hb⟩ := hu
            have HYs_u5_2 := Lib.hid (show wr.heap.size ≤ y5_1.heap.size from hy.size)
            refine ⟨_, rfl, fun u => Below wr.heap.size wr u ∧ TrAt u (GapF (fun k => k ≠ g3 ∧ k < wr.heap.size) y5_1 u5_2) ts (actT t x).1 ∧ u5_2.heap.size ≤ u.heap.size, ⟨below_chain hy hb, ht.gapF, Nat.le_refl _⟩, kept_and (kept_below wr) (kept_and (kept_tr (GapF (fun k => k ≠ g3 ∧ k < wr.heap.size) y5_1 u5_2) ts (actT t x).1) (kept_size u5_2.heap.size)), fun _ u h => h.1, ?_⟩
            try simp only [List.getElem_toArray, List.getElem_cons_succ, List.getElem_cons_zero, Act.put, List.setIfInBounds_toArray, List.set_cons_succ, List.set_cons_zero]
            refine wpAnyV_pure (i := 6) (v := .tuple #[.agg ts.toArray, .int .u8 ((actT t x).2 : Int)]) (kept_and (kept_below wr) (kept_and (kept_tr (GapF (fun k => k ≠ g3 ∧ k < wr.heap.size) y5_1 u5_2) ts (actT t x).1) (kept_size u5_2.heap.size))) rfl (by kernel_rfl) (by kernel_rfl) (fun _ _ _ h => by cases h.1) (DoesV.reads (by rfl) fun w9 hS => by go_simp) ?_
            try simp only [List.getElem_toArray, List.getElem_cons_succ, List.getElem_cons_zero, Act.put, List.setIfInBounds_toArray, List.set_cons_succ, List.set_cons_zero]
            refine wpAnyV_pure (i := 7) (v := .agg ts.toArray) (kept_and (kept_below wr) (kept_and (kept_tr (GapF (fun k => k ≠ g3 ∧ k < wr.heap.size) y5_1 u5_2) ts (actT t x).1) (kept_size u5_2.heap.size))) rfl (by kernel_rfl) (by kernel_rfl) (fun _ _ _ h => by cases h.1) (DoesV.reads (by rfl) fun w9 hS => by go_simp) ?_
            try simp only [List.getElem_toArray, List.getElem_cons_succ, List.getElem_cons_zero, Act.put, List.setIfInBounds_toArray, List.set_cons_succ, List.set_cons_zero]
            refine wpAnyV_pure (i := 8) (v := .int .u8 ((actT t x).2 : Int)) (kept_and (kept_below wr) (kept_and (kept_tr (GapF (fun k => k ≠ g3 ∧ k < wr.heap.size) y5_1 u5_2) ts (actT t x).1) (kept_size u5_2.heap.size))) rfl (by kernel_rfl) (by kernel_rfl) (fun _ _ _ h => by cases h.1) (DoesV.reads (by rfl) fun w9 hS => by go_simp) ?_
            try simp only [List.getElem_toArray, List.getElem_cons_succ, List.getElem_cons_zero, Act.put, List.setIfInBounds_toArray, List.set_cons_succ, List.set_cons_zero]
            refine wpAnyV_all (l := [9]) (by kernel_rfl) (by decide) (fun i hi y5_3 hy => ?_)
            simp only [List.mem_cons, List.not_mem_nil, or_false] at hi
            subst hi
            refine wpOp_at rfl rfl ?_
            refine wp_allocS 31 rfl treeZ treeZero (fun g5 u5_4 hk hb hg => ?_)
            have HGw_g5 := Lib.hid (show wr.heap.size ≤ g5 from Nat.le_trans hy.1.size hg)
            have HGa_g5 := Lib.hid (show u5_2.heap.size ≤ g5 from Nat.le_trans hy.2.2 hg)
            refine ⟨fun u => Below wr.heap.size wr u ∧ TrAt u (GapF (fun k => k ≠ g3 ∧ k < wr.heap.size) y5_1 u5_2) ts (actT t x).1 ∧ u5_2.heap.size ≤ u.heap.size ∧ Cs u g5 31 treeZ.toArray, ⟨below_chain hy.1 hb, (kept_tr (GapF (fun k => k ≠ g3 ∧ k < wr.heap.size) y5_1 u5_2) ts (actT t x).1) y5_3 u5_4 hy.2.1 hb, (kept_size u5_2.heap.size) y5_3 u5_4 hy.2.2 hb, hk⟩, kept_and (kept_below wr) (kept_and (kept_tr (GapF (fun k => k ≠ g3 ∧ k < wr.heap.size) y5_1 u5_2) ts (actT t x).1) (kept_and (kept_size u5_2.heap.size) (kept_cs _ _ _))), fun _ u h => ⟨h.1, h.2.1, h.2.2.1⟩, ?_⟩
            try simp only [List.getElem_toArray, List.getElem_cons_succ, List.getElem_cons_zero, Act.put, List.setIfInBounds_toArray, List.set_cons_succ, List.set_cons_zero]
            refine wpAnyV_all (l := [10]) (by kernel_rfl) (by decide) (fun i hi y5_5 hy => ?_)
            simp only [List.mem_cons, List.not_mem_nil, or_false] at hi
            subst hi
            refine wpOp_at rfl rfl ?_
            refine wp_storeW 31 _ _ rfl g5 rfl ts treeZ rfl hy.2.2.2 (by rw [hy.2.1.len]; rfl) (hy.2.1.one) (by rw [hy.2.1.len]; exact infoTree) (fun u5_6 hk ht => ?_)
            refine ⟨fun u => Below wr.heap.size wr u ∧ TrAt u (GapF (fun k => k ≠ g3 ∧ k < wr.heap.size) y5_1 u5_2) ts (actT t x).1 ∧ u5_2.heap.size ≤ u.heap.size ∧ Cs u g5 31 ts.toArray, ⟨below_turn hy.1 ht hy.1.size HGw_g5.out, hy.2.1.turn ht (fun k hk2 e => by subst e; obtain ⟨h1, h2⟩ := hk2; have h3 := HGw_g5.out; have := HGa_g5.out; rcases h1 with h1 | h1; exact absurd h1.2 (by omega); omega), Nat.le_trans hy.2.2.1 ht.size, hk⟩, kept_and (kept_below wr) (kept_and (kept_tr (GapF (fun k => k ≠ g3 ∧ k < wr.heap.size) y5_1 u5_2) ts (actT t x).1) (kept_and (kept_size u5_2.heap.size) (kept_cs _ _ _))), fun hn => (hn (by decide)).elim, ?_⟩
            try simp only [List.getElem_toArray, List.getElem_cons_succ, List.getElem_cons_zero, Act.put, List.setIfInBounds_toArray, List.set_cons_succ, List.set_cons_zero]
            refine wpAnyV_pure (i := 11) (v := .int .u8 ((actT t x).2 : Int)) (kept_and (kept_below wr) (kept_and (kept_tr (GapF (fun k => k ≠ g3 ∧ k < wr.heap.size) y5_1 u5_2) ts (actT t x).1) (kept_and (kept_size u5_2.heap.size) (kept_cs _ _ _)))) rfl (by kernel_rfl) (by kernel_rfl) (fun _ _ _ h => by cases h.1) (DoesV.reads (by rfl) fun w9 hS => by go_simp) ?_
            try simp only [List.getElem_toArray, List.getElem_cons_succ, List.getElem_cons_zero, Act.put, List.setIfInBounds_toArray, List.set_cons_succ, List.set_cons_zero]
            exact wpAnyV_done (by kernel_rfl) (fun z hz => ⟨rfl, g5, ts, hz.1, hz.2.2.2, hz.2.1.mono (fun k hk hh => ⟨by have := HC.out.lt; rcases hh.1 with h1 | h1; exact h1.1; have := HYs_u5_2.out; omega, hk⟩), HGw_g5.out, rfl⟩) _
          · refine wpOp_at rfl rfl ?_
            refine wp_allocS 31 rfl treeZ treeZero (fun g5 u5_7 hk hb hg => ?_)
            have HGw_g5 := Lib.hid (show wr.heap.size ≤ g5 from Nat.le_trans hy.size hg)
            refine ⟨fun u => Below wr.heap.size wr u ∧ Cs u g5 31 treeZ.toArray, ⟨below_chain hy hb, hk⟩, kept_and (kept_below wr) (kept_cs _ _ _), fun _ u h => h.1, ?_⟩
            try simp only [List.getElem_toArray, List.getElem_cons_succ, List.getElem_cons_zero, Act.put, List.setIfInBounds_toArray, List.set_cons_succ, List.set_cons_zero]
            refine wpAnyV_all (l := [5]) (by kernel_rfl) (by decide) (fun i hi y5_8 hy => ?_)
            simp only [List.mem_cons, List.not_mem_nil, or_false] at hi
            subst hi
            refine wpOp_at rfl rfl ?_
            refine wp_of_call (f := 5) (args := #[.agg cs.toArray, .agg xs.toArray]) (by go_simp) (Does_v HK.out t cs x xs (fun k => k ≠ g3 ∧ k < wr.heap.size) y5_8 ((HT.out.below HB.out).below hy.1) HM.out (HTR.out.below hy.1) (fun k hk => Nat.lt_of_lt_of_le hk.2 hy.1.size) (actE.turn HAC.out (Turn.of_below hy.1 fun _ => False) fun _ _ h => h)) fun e u5_9 hu => ?_
            obtain ⟨ts, rfl, ht, hb⟩ := hu
            have HYs_u5_9 := Lib.hid (show wr.heap.size ≤ y5_8.heap.size from hy.1.size)
            have HGb_g5 := Lib.hid (show g5 < y5_8.heap.size from hy.2.lt)
            refine ⟨_, rfl, fun u => Below wr.heap.size wr u ∧ Cs u g5 31 treeZ.toArray ∧ TrAt u (GapF (fun k => k ≠ g3 ∧ k < wr.heap.size) y5_8 u5_9) ts (actT t x).1 ∧ u5_9.heap.size ≤ u.heap.size, ⟨below_chain hy.1 hb, (kept_cs _ _ _) y5_8 u5_9 hy.2 hb, ht.gapF, Nat.le_refl _⟩, kept_and (kept_below wr) (kept_and (kept_cs _ _ _) (kept_and (kept_tr (GapF (fun k => k ≠ g3 ∧ k < wr.heap.size) y5_8 u5_9) ts (actT t x).1) (kept_size u5_9.heap.size))), fun _ u h => ⟨h.1, h.2.1⟩, ?_⟩
            try simp only [List.getElem_toArray, List.getElem_cons_succ, List.getElem_cons_zero, Act.put, List.setIfInBounds_toArray, List.set_cons_succ, List.set_cons_zero]
            refine wpAnyV_pure (i := 6) (v := .tuple #[.agg ts.toArray, .int .u8 ((actT t x).2 : Int)]) (kept_and (kept_below wr) (kept_and (kept_cs _ _ _) (kept_and (kept_tr (GapF (fun k => k ≠ g3 ∧ k < wr.heap.size) y5_8 u5_9) ts (actT t x).1) (kept_size u5_9.heap.size)))) rfl (by kernel_rfl) (by kernel_rfl) (fun _ _ _ h => by cases h.1) (DoesV.reads (by rfl) fun w9 hS => by go_simp) ?_
            try simp only [List.getElem_toArray, List.getElem_cons_succ, List.getElem_cons_zero, Act.put, List.setIfInBounds_toArray, List.set_cons_succ, List.set_cons_zero]
            refine wpAnyV_pure (i := 7) (v := .agg ts.toArray) (kept_and (kept_below wr) (kept_and (kept_cs _ _ _) (kept_and (kept_tr (GapF (fun k => k ≠ g3 ∧ k < wr.heap.size) y5_8 u5_9) ts (actT t x).1) (kept_size u5_9.heap.size)))) rfl (by kernel_rfl) (by kernel_rfl) (fun _ _ _ h => by cases h.1) (DoesV.reads (by rfl) fun w9 hS => by go_simp) ?_
            try simp only [List.getElem_toArray, List.getElem_cons_succ, List.getElem_cons_zero, Act.put, List.setIfInBounds_toArray, List.set_cons_succ, List.set_cons_zero]
            refine wpAnyV_pure (i := 8) (v := .int .u8 ((actT t x).2 : Int)) (kept_and (kept_below wr) (kept_and (kept_cs _ _ _) (kept_and (kept_tr (GapF (fun k => k ≠ g3 ∧ k < wr.heap.size) y5_8 u5_9) ts (actT t x).1) (kept_size u5_9.heap.size)))) rfl (by kernel_rfl) (by kernel_rfl) (fun _ _ _ h => by cases h.1) (DoesV.reads (by rfl) fun w9 hS => by go_simp) ?_
            try simp only [List.getElem_toArray, List.getElem_cons_succ, List.getElem_cons_zero, Act.put, List.setIfInBounds_toArray, List.set_cons_succ, List.set_cons_zero]
            refine wpAnyV_all (l := [10]) (by kernel_rfl) (by decide) (fun i hi y5_10 hy => ?_)
            simp only [List.mem_cons, List.not_mem_nil, or_false] at hi
            subst hi
            refine wpOp_at rfl rfl ?_
            refine wp_storeW 31 _ _ rfl g5 rfl ts treeZ rfl hy.2.1 (by rw [hy.2.2.1.len]; rfl) (hy.2.2.1.one) (by rw [hy.2.2.1.len]; exact infoTree) (fun u5_11 hk ht => ?_)
            refine ⟨fun u => Below wr.heap.size wr u ∧ TrAt u (GapF (fun k => k ≠ g3 ∧ k < wr.heap.size) y5_8 u5_9) ts (actT t x).1 ∧ u5_9.heap.size ≤ u.heap.size ∧ Cs u g5 31 ts.toArray, ⟨below_turn hy.1 ht hy.1.size HGw_g5.out, hy.2.2.1.turn ht (fun k hk2 e => by subst e; obtain ⟨h1, h2⟩ := hk2; have h3 := HGw_g5.out; have := HGb_g5.out; rcases h1 with h1 | h1; exact absurd h1.2 (by omega); omega), Nat.le_trans hy.2.2.2 ht.size, hk⟩, kept_and (kept_below wr) (kept_and (kept_tr (GapF (fun k => k ≠ g3 ∧ k < wr.heap.size) y5_8 u5_9) ts (actT t x).1) (kept_and (kept_size u5_9.heap.size) (kept_cs _ _ _))), fun hn => (hn (by decide)).elim, ?_⟩
            try simp only [List.getElem_toArray, List.getElem_cons_succ, List.getElem_cons_zero, Act.put, List.setIfInBounds_toArray, List.set_cons_succ, List.set_cons_zero]
            refine wpAnyV_pure (i := 11) (v := .int .u8 ((actT t x).2 : Int)) (kept_and (kept_below wr) (kept_and (kept_tr (GapF (fun k => k ≠ g3 ∧ k < wr.heap.size) y5_8 u5_9) ts (actT t x).1) (kept_and (kept_size u5_9.heap.size) (kept_cs _ _ _)))) rfl (by kernel_rfl) (by kernel_rfl) (fun _ _ _ h => by cases h.1) (DoesV.reads (by rfl) fun w9 hS => by go_simp) ?_
            try simp only [List.getElem_toArray, List.getElem_cons_succ, List.getElem_cons_zero, Act.put, List.setIfInBounds_toArray, List.set_cons_succ, List.set_cons_zero]
            exact wpAnyV_done (by kernel_rfl) (fun z hz => ⟨rfl, g5, ts, hz.1, hz.2.2.2, hz.2.1.mono (fun k hk hh => ⟨by have := HC.out.lt; rcases hh.1 with h1 | h1; exact h1.1; have := HYs_u5_9.out; omega, hk⟩), HGw_g5.out, rfl⟩) _
        rintro a1 w5 ⟨g5, ts, hb, hc, ht, hg, rfl⟩
        try simp only [List.getElem_toArray, List.getElem_cons_succ, List.getElem_cons_zero, Act.put, List.setIfInBounds_toArray, List.set_cons_succ, List.set_cons_zero]
        have HB5 := Lib.hid hb
        have C5 := Lib.hid hc
        have T5 := Lib.hid ht
        have G5 := Lib.hid hg
        clear hb hc ht hg
        generalize (actT t x).1 = X at *
        generalize (actT t x).2 = s at *
        have C3 := Lib.hid (HC.out.below HB5.out HC.out.lt)
        have T35 := Lib.hid (HTR.out.below HB5.out)
        have HBX := Lib.hid (below_chain HB.out HB5.out)
        have HL3 := Lib.hid (show g3 < wr.heap.size from HC.out.lt)
        have CUT6 : True := trivial
        go_wp2_with (first
          | (clear CUT6; (with_reducible show wpList _ _ _ _ _ w5); refine list_cut (fun a a1 u => Below w5.heap.size w5 u ∧ ∃ (v31 v32 v33 v34 v35 v36 v37 v38 v39 v40 v41 v42 : Value), a1 = (((((((((((((a.put (some 31) v31).put (some 32) v32).put (some 33) v33).put (some 34) v34).put (some 35) v35).put (some 36) v36).put (some 37) v37).put (some 38) v38).put (some 39) v39).put (some 40) v40).put (some 41) v41).put (some 42) v42).put (some 43) (.bool false))) ?_ ?_)
            | ((with_reducible show wpList _ _ _ _ _ w5); refine wpList_loadS rfl 31 _ rfl g5 rfl ts C5.out _ Tryz.underlying31 rfl (by rw [T5.out.len]; exact infoTree) ?_; go_frame)
            | fail)
        · refine (HK.out.may X ts (fun k => k ≠ g3 ∧ k < w5.heap.size) w5 (HT.out.below HBX.out) T5.out HS.out.may).mono ?_
          rintro e w6 ⟨b1, rfl, hb1, hb⟩
          obtain rfl : b1 = true := hb1.2 HS.out.may
          have B6 := Lib.hid hb
          clear hb1 hb
          by_cases hs : s = 0
          · subst hs
            go_wp2_with fail
            all_goals first | exact B6.out | exact ⟨rfl, B6.out, _, _, _, _, _, _, _, _, _, _, _, _, rfl⟩ | exact ⟨B6.out, _, _, _, _, _, _, _, _, _, _, _, _, rfl⟩
          · have es : ((s : Int) != 0) = true := by simp; omega
            obtain rfl := HS.out.bad hs
            clear hs
            have C36 := Lib.hid (C3.out.below B6.out C3.out.lt)
            have C56 := Lib.hid (C5.out.below B6.out C5.out.lt)
            go_wp2_with (first
              | ((with_reducible show wpList _ _ _ _ _ w6); refine wpList_loadH (by rfl) 31 _ rfl g5 rfl ts C56.out _ Tryz.underlying31 rfl (by rw [T5.out.len]; exact infoTree) ?_; go_frame)
              | ((with_reducible show wpList _ _ _ _ _ w6); refine wpList_loadH (by rfl) 31 _ rfl g3 rfl cs C36.out _ Tryz.underlying31 rfl (by rw [T35.out.len]; exact infoTree) ?_; go_frame)
              | fail)
            refine (HK2.out.same X ts cs _ _ w6 HM.out (T5.out.below B6.out) (T35.out.below B6.out)).mono ?_
            rintro e w7 ⟨rfl, hb⟩
            have B7 := Lib.hid (below_chain B6.out hb)
            clear hb
            go_wp2_with fail
            all_goals first | exact B7.out | exact ⟨rfl, B7.out, _, _, _, _, _, _, _, _, _, _, _, _, rfl⟩ | exact ⟨B7.out, _, _, _, _, _, _, _, _, _, _, _, _, rfl⟩
        rintro a1 w6 ⟨hb, v31, v32, v33, v34, v35, v36, v37, v38, v39, v40, v41, v42, rfl⟩
        try simp only [List.getElem_toArray, List.getElem_cons_succ, List.getElem_cons_zero, Act.put, List.setIfInBounds_toArray, List.set_cons_succ, List.set_cons_zero]
        have B6 := Lib.hid hb
        clear hb
        have C36 := Lib.hid (C3.out.below B6.out C3.out.lt)
        have C56 := Lib.hid (C5.out.below B6.out C5.out.lt)
        have T36 := Lib.hid (T35.out.below B6.out)
        have T56 := Lib.hid (T5.out.below B6.out)
        have HBY := Lib.hid (below_chain HBX.out B6.out)
        obtain ⟨A5, c5, d50, d52, d53, r5, hb5, hc5⟩ := T56.out.nodes
        obtain ⟨A3, c3, -, -, d33, -, -, hc3⟩ := T36.out.nodes
        have p3 : w6.cell? ⟨g5, 3, none⟩ = some (.int .u32 (X.count : Int)) := C56.out.cell 3 (by simpa using d53)
        have q3 : w6.cell? ⟨g3, 3, none⟩ = some (.int .u32 (t.count : Int)) := C36.out.cell 3 (by simpa using d33)
        have HC5 := Lib.hid hc5
        have HC3 := Lib.hid hc3
        have HB5b := Lib.hid hb5
        have R5 := Lib.hid r5
        have D50 := Lib.hid d50
        have D52 := Lib.hid d52
        have D53 := Lib.hid d53
        have D33 := Lib.hid d33
        clear hc5 hc3 hb5 r5 d50 d52 d53 d33
        have CUT8 : True := trivial
        go_wp2_with (first
          | (clear CUT8; (with_reducible show wpList _ _ _ _ _ w6); refine list_cut (fun a a1 u => w6 = u ∧ ∃ (v44 v45 v46 v47 v48 v49 v50 v51 v52 v53 v54 v55 v56 v57 v58 v59 : Value), a1 = (((((((((((((((((a.put (some 44) v44).put (some 45) v45).put (some 46) v46).put (some 47) v47).put (some 48) v48).put (some 49) v49).put (some 50) v50).put (some 51) v51).put (some 52) v52).put (some 53) v53).put (some 54) v54).put (some 55) v55).put (some 56) v56).put (some 57) v57).put (some 58) v58).put (some 59) v59).put (some 60) (.bool false))) ?_ ?_; refine stop_here ?_)
          | fail)
        · refine go_on ?_
          by_cases hs : s = 0
          · subst hs
            rcases HS.out.count with hcc | hcc
            · have ec : (X.count : Int) = t.count := by omega
              clear hcc
              go_wp2_with fail
              all_goals first | exact ⟨rfl, rfl, _, _, _, _, _, _, _, _, _, _, _, _, _, _, _, _, rfl⟩ | exact ⟨rfl, _, _, _, _, _, _, _, _, _, _, _, _, _, _, _, _, rfl⟩ | exact ⟨_, _, _, _, _, _, _, _, _, _, _, _, _, _, _, _, rfl⟩
            · have ec : ¬ (X.count : Int) = t.count := by omega
              have ED := Lib.hid (show (X.count : Int) = t.count + 1 by omega)
              have E32 := Lib.hid (show (t.count : Int) + 1 ≤ 4294967295 by have := HC5.out; omega)
              clear hcc
              go_wp2_with fail
              have h1 := ED.out; have h2 := E32.out; omega
          · have es : ((s : Int) == 0) = false := by simp; omega
            have es2 : ¬ (s : Int) = 0 := by omega
            clear hs
            go_wp2_with fail
            all_goals first | exact ⟨rfl, rfl, _, _, _, _, _, _, _, _, _, _, _, _, _, _, _, _, rfl⟩ | exact ⟨rfl, _, _, _, _, _, _, _, _, _, _, _, _, _, _, _, _, rfl⟩ | exact ⟨_, _, _, _, _, _, _, _, _, _, _, _, _, _, _, _, rfl⟩
        rintro a1 u ⟨rfl, v44, v45, v46, v47, v48, v49, v50, v51, v52, v53, v54, v55, v56, v57, v58, v59, rfl⟩
        try simp only [List.getElem_toArray, List.getElem_cons_succ, List.getElem_cons_zero, Act.put, List.setIfInBounds_toArray, List.set_cons_succ, List.set_cons_zero]
        clear p3 q3
        go_wp2_with fail
        go_loopw [7] (fun j wz => ∃ m : Nat, j = .int .i64 m ∧ m ≤ X.nodes.length ∧ Below w6.heap.size w6 wz) (fun j _ => X.nodes.length - (RowKit.intOf j).toNat)
        case atStart => exact ⟨0, rfl, Nat.zero_le _, Below.refl _ _⟩
        case round =>
          obtain ⟨m, rfl, hmm, hBz⟩ := hrel
          have BZ := Lib.hid hBz
          have C5z := Lib.hid (C56.out.below hBz C56.out.lt)
          have C3z := Lib.hid (C36.out.below hBz C36.out.lt)
          clear hBz
          have HNX := Lib.hid (show X.nodes.length ≤ 64 from HS.out.may.many)
          have hnx : (X.nodes.length : Int) ≤ 64 := by have := HNX.out; omega
          have p0 : wr.cell? ⟨g5, 0, none⟩ = some (.slice A5 X.nodes.length c5) := C5z.out.cell 0 (by simpa using D50.out)
          by_cases hmlt : m < X.nodes.length
          · obtain ⟨b5, off5, ds, rfl, hnd, hat⟩ := nd_at (R5.out.below BZ.out) m hmlt
            have HND := Lib.hid hnd
            have HAD := Lib.hid hat
            have HNS := Lib.hid (HS.out.nodes X.nodes[m] (List.getElem_mem hmlt))
            have HSM := Lib.hid (show X.nodes[m].names.length ≤ 140737488355328 from Nat.le_trans (HS.out.may.ok _ (List.getElem_mem hmlt)).many (by decide))
            generalize X.nodes[m] = n at *
            clear hnd hat
            obtain ⟨h0, h1, h3, hi32, hg32, -⟩ := HND.out.head
            have HI32 := Lib.hid hi32
            have HG32 := Lib.hid hg32
            have H3 := Lib.hid h3
            have H0 := Lib.hid h0
            have H1 := Lib.hid h1
            clear h0 h1 h3 hi32 hg32
            go_wp2_with (first
              | ((with_reducible show wpList _ _ _ _ _ wr); refine wpList_load_agg rfl 43 _ rfl b5 (off5 + m * 6) rfl ds HAD.out _ Tryz.underlying43 rfl (by rw [HND.out.len]; exact infoNode) ?_; go_frame)
              | ((with_reducible show wpList _ _ _ _ _ wr); refine wpList_allocS rfl 43 rfl nodeZ nodeZero ?_; intro g8 w8 hk1 hb1 hg1; go_frame; have C8 := Lib.hid hk1; have B8 := Lib.hid hb1; have G8 := Lib.hid hg1; clear hk1 hb1 hg1)
              | ((with_reducible show wpList _ _ _ _ _ w8); refine wpList_storeS rfl 43 _ _ rfl g8 rfl ds nodeZ rfl C8.out (by rw [HND.out.len]; rfl) HND.out.one (by rw [HND.out.len]; exact infoNode) ?_; intro w9 hk2 ht2; go_frame; have C9 := Lib.hid hk2; have hb9 : Below wr.heap.size wr w9 := below_turn B8.out ht2 B8.out.size G8.out; have B9 := Lib.hid hb9; have C39 := Lib.hid (C3z.out.below hb9 C3z.out.lt); have C59 := Lib.hid (C5z.out.below hb9 C5z.out.lt); have k0 : w9.cell? ⟨g8, 0, none⟩ = some (.int .u32 (n.ino : Int)) := hk2.cell 0 (by simpa using H0.out); have k1 : w9.cell? ⟨g8, 1, none⟩ = some (.int .u32 (n.gen : Int)) := hk2.cell 1 (by simpa using H1.out); clear hk2 ht2 hb9)
              | ((with_reducible show wpList _ _ _ _ _ w9); refine wpList_loadS rfl 31 _ rfl g3 rfl cs C39.out _ Tryz.underlying31 rfl (by rw [T36.out.len]; exact infoTree) ?_; go_frame)
              | fail)
            have BA := Lib.hid (below_chain BZ.out B9.out)
            refine (HK.out.find t cs (n.ino, n.gen) _ w9 (HT.out.below (below_chain HBY.out BA.out)) (T36.out.below BA.out) ⟨HI32.out, HG32.out⟩ HM.out).mono ?_
            rintro e w10 ⟨fs, rfl, hf, hb⟩
            have NF := Lib.hid hf
            have B10 := Lib.hid hb
            have C910 := Lib.hid (C9.out.below hb C9.out.lt)
            have ND10 := Lib.hid ((HND.out.below B9.out).below hb)
            clear hf hb k0 k1
            have HFS := Lib.hid (find_small HM.out (n.ino, n.gen))
            have HFA := Lib.hid (fun (hd : n ∈ t.nodes) => findT_at HM.out hd)
            generalize hq : findV t (n.ino, n.gen) = q at *
            clear hq
            clear p0
            cases q with
            | none =>
              dsimp only [Option.getD_none, Option.isSome_none] at *
              obtain ⟨hx1, hx2⟩ := (HNS.out.resolve_left fun hd => by have := HFA.out hd; cases this)
              have ec : ((X.count : Int) == t.count) = false := by simp; omega
              have ec2 : ¬ (X.count : Int) = t.count := by omega
              have EG := Lib.hid (show (n.chg : Int) = X.boot * 4294967296 + X.count by rw [hx2]; unfold topT; omega)
              have E1 := Lib.hid (show (X.boot : Int) ≤ 2147483648 by have := HS.out.may.boot2; omega)
              have E2 := Lib.hid (show (X.count : Int) ≤ 4294967295 by have := HC5.out; omega)
              have ew : ((n.chg : Int) != IntKind.u64.wrap (IntKind.u64.wrap (IntKind.u64.wrap (X.boot : Int) * 4294967296) + IntKind.u64.wrap (X.count : Int))) = false := by (have h1 := EG.out; have h2 := E1.out; have h3 := E2.out; have h4 : (0 : Int) ≤ X.boot := (by omega); have h5 : (0 : Int) ≤ X.count := (by omega); simp (disch := omega) only [IntWalk.u64_in]; simp; omega)
              clear hx1 hx2
              go_wp2_with (first
                | ((with_reducible show wpList _ _ _ _ _ w10); refine wpList_allocS rfl 43 rfl nodeZ nodeZero ?_; intro g9 w11 hk1 hb1 hg1; go_frame; have C11 := Lib.hid hk1; have B11 := Lib.hid hb1; have G9 := Lib.hid hg1; clear hk1 hb1 hg1)
                | ((with_reducible show wpList _ _ _ _ _ w11); refine wpList_storeS rfl 43 _ _ rfl g9 rfl fs nodeZ rfl C11.out (by rw [NF.out.len]; rfl) NF.out.one (by rw [NF.out.len]; exact infoNode) ?_; intro w12 hk2 ht2; go_frame; have C12 := Lib.hid hk2; have B12 := Lib.hid (show Below w10.heap.size w10 w12 from below_turn B11.out ht2 B11.out.size G9.out); have C812 := Lib.hid (C910.out.below B12.out C910.out.lt); have NF12 := Lib.hid (NF.out.below B12.out); have ND12 := Lib.hid (ND10.out.below B12.out); have BW := Lib.hid (below_chain (below_chain BA.out B10.out) B12.out); have C5v := Lib.hid (C56.out.below BW.out C56.out.lt); have C3v := Lib.hid (C36.out.below BW.out C36.out.lt); have k3 : w12.cell? ⟨g8, 3, none⟩ = some (.int .u64 (n.chg : Int)) := C812.out.cell 3 (by simpa using H3.out); have p2 : w12.cell? ⟨g5, 2, none⟩ = some (.int .u32 (X.boot : Int)) := C5v.out.cell 2 (by simpa using D52.out); have p3 : w12.cell? ⟨g5, 3, none⟩ = some (.int .u32 (X.count : Int)) := C5v.out.cell 3 (by simpa using D53.out); have q3 : w12.cell? ⟨g3, 3, none⟩ = some (.int .u32 (t.count : Int)) := C3v.out.cell 3 (by simpa using D33.out); clear hk2 ht2)
                | fail)
              go_roundw
              case rel => exact ⟨m + 1, by have := HNX.out; go_num, hmlt, BW.out⟩
              case measure => have := HNX.out; simp [RowKit.intOf]; omega
            | some d =>
              dsimp only [Option.getD_some, Option.isSome_some] at *
              go_wp2_with (first
                | ((with_reducible show wpList _ _ _ _ _ w10); refine wpList_allocS rfl 43 rfl nodeZ nodeZero ?_; intro g9 w11 hk1 hb1 hg1; go_frame; have C11 := Lib.hid hk1; have B11 := Lib.hid hb1; have G9 := Lib.hid hg1; clear hk1 hb1 hg1)
                | ((with_reducible show wpList _ _ _ _ _ w11); refine wpList_storeS rfl 43 _ _ rfl g9 rfl fs nodeZ rfl C11.out (by rw [NF.out.len]; rfl) NF.out.one (by rw [NF.out.len]; exact infoNode) ?_; intro w12 hk2 ht2; go_frame; have C12 := Lib.hid hk2; have B12 := Lib.hid (show Below w10.heap.size w10 w12 from below_turn B11.out ht2 B11.out.size G9.out); have C812 := Lib.hid (C910.out.below B12.out C910.out.lt); have NF12 := Lib.hid (NF.out.below B12.out); have ND12 := Lib.hid (ND10.out.below B12.out); have BW := Lib.hid (below_chain (below_chain BA.out B10.out) B12.out); have C5v := Lib.hid (C56.out.below BW.out C56.out.lt); have C3v := Lib.hid (C36.out.below BW.out C36.out.lt); clear hk2 ht2)
                | ((with_reducible show wpList _ _ _ _ _ w12); refine wpList_loadH (by rfl) 43 _ rfl g9 rfl fs C12.out _ Tryz.underlying43 rfl (by rw [NF.out.len]; exact infoNode) ?_; go_frame)
                | ((with_reducible show wpList _ _ _ _ _ w12); refine wpList_loadH (by rfl) 43 _ rfl g8 rfl ds C812.out _ Tryz.underlying43 rfl (by rw [HND.out.len]; exact infoNode) ?_; go_frame)
                | fail)
              refine (SameNode_v d n fs ds _ _ w12 NF12.out ND12.out HFS.out HSM.out).mono ?_
              rintro e w13 ⟨rfl, hb⟩
              have BV := Lib.hid (below_chain BW.out hb)
              have C813 := Lib.hid (C812.out.below hb C812.out.lt)
              clear hb
              cases hbs : sameN d n
              · have HBS := Lib.hid hbs
                clear hbs
                have C5w := Lib.hid (C56.out.below BV.out C56.out.lt)
                have C3w := Lib.hid (C36.out.below BV.out C36.out.lt)
                have k3 : w13.cell? ⟨g8, 3, none⟩ = some (.int .u64 (n.chg : Int)) := C813.out.cell 3 (by simpa using H3.out)
                have p2 : w13.cell? ⟨g5, 2, none⟩ = some (.int .u32 (X.boot : Int)) := C5w.out.cell 2 (by simpa using D52.out)
                have p3 : w13.cell? ⟨g5, 3, none⟩ = some (.int .u32 (X.count : Int)) := C5w.out.cell 3 (by simpa using D53.out)
                have q3 : w13.cell? ⟨g3, 3, none⟩ = some (.int .u32 (t.count : Int)) := C3w.out.cell 3 (by simpa using D33.out)
                obtain ⟨hx1, hx2⟩ := (HNS.out.resolve_left fun hd => by have h5 := HFA.out hd; injection h5 with h5; have h6 := HBS.out; rw [sameN_iff.2 h5] at h6; cases h6)
                have ec : ((X.count : Int) == t.count) = false := by simp; omega
                have ec2 : ¬ (X.count : Int) = t.count := by omega
                have EG := Lib.hid (show (n.chg : Int) = X.boot * 4294967296 + X.count by rw [hx2]; unfold topT; omega)
                have E1 := Lib.hid (show (X.boot : Int) ≤ 2147483648 by have := HS.out.may.boot2; omega)
                have E2 := Lib.hid (show (X.count : Int) ≤ 4294967295 by have := HC5.out; omega)
                have ew : ((n.chg : Int) != IntKind.u64.wrap (IntKind.u64.wrap (IntKind.u64.wrap (X.boot : Int) * 4294967296) + IntKind.u64.wrap (X.count : Int))) = false := by (have h1 := EG.out; have h2 := E1.out; have h3 := E2.out; have h4 : (0 : Int) ≤ X.boot := (by omega); have h5 : (0 : Int) ≤ X.count := (by omega); simp (disch := omega) only [IntWalk.u64_in]; simp; omega)
                clear hx1 hx2
                go_wp2_with fail
                go_roundw
                case rel => exact ⟨m + 1, by have := HNX.out; go_num, hmlt, BV.out⟩
                case measure => have := HNX.out; simp [RowKit.intOf]; omega
              · clear hbs
                go_wp2_with fail
                go_roundw
                case rel => exact ⟨m + 1, by have := HNX.out; go_num, hmlt, BV.out⟩
                case measure => have := HNX.out; simp [RowKit.intOf]; omega
          · go_wp2_with (first
              | ((with_reducible show wpList _ _ _ _ _ wr); refine wpList_loadS rfl 31 _ rfl g5 rfl ts C5z.out _ Tryz.underlying31 rfl (by rw [T5.out.len]; exact infoTree) ?_; go_frame)
              | ((with_reducible show wpList _ _ _ _ _ wr); refine wpList_storeS rfl 31 _ _ rfl g3 rfl ts cs rfl C3z.out (by rw [T5.out.len, T36.out.len]) T5.out.one (by rw [T5.out.len]; exact infoTree) ?_; intro w9 hk2 ht2; go_frame; have C9 := Lib.hid hk2; have BF := Lib.hid (show Below w.heap.size w w9 from below_turn (below_chain HBY.out BZ.out) ht2 (below_chain HBY.out BZ.out).size HG.out); have TF := Lib.hid ((T56.out.below BZ.out).turn ht2 fun k hk => hk.1); clear hk2 ht2)
              | fail)
            go_roundw
            case rel => exact ⟨k + 1, X, ts, by go_num, hlt, HS.out.may, C9.out, TF.out.mono fun k hk hh => ⟨hh.1, hk⟩, BF.out⟩
            case measure => simp [RowKit.intOf]; omega
      · have i60 : ¬ (k : Int) < 60 := by omega
        go_wp2_with fail
        refine (lives13_v HK.out wr (HT.out.below HB.out)).mono ?_
        rintro e wz ⟨rfl, hb⟩
        have BE := Lib.hid (below_chain HB.out hb)
        clear hb
        go_wp2_with fail
        go_ret
        exact ⟨rfl, BE.out⟩
    · go_wp2_with fail
      refine (lives13_v HK.out wr (HT.out.below HB.out)).mono ?_
      rintro e wz ⟨rfl, hb⟩
      have BE := Lib.hid (below_chain HB.out hb)
      clear hb
      go_wp2_with fail
      go_ret
      exact ⟨rfl, BE.out⟩

end Go.Proofs.YtenpmbfncnepgaaGreatDoor
