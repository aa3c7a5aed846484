/- SWEPT -/
import Derived.Test.YtfgbpinfplllgaaGreatDoorStOwnP
set_option linter.unusedVariables false
set_option linter.unusedSimpArgs false
open List (getElem_toArray getElem_cons_succ getElem_cons_zero setIfInBounds_toArray set_cons_succ set_cons_zero)
open Go.Lib (hid)
namespace Go.Proofs.YtfgbpinfplllgaaGreatDoor
open Go.RowKit Go.Shelf
set_option maxRecDepth 100000
set_option maxHeartbeats 16000000 in
theorem own8_walk (K : K7) (l : List Ch) (A : Option Addr) (c : Nat) (n1 : Nat) (w : World) (hg : LaidErr w)
    (hs : ∀ x ∈ l, x.1.length ≤ maxLen ∧ x.2.1.length ≤ 140737488351232) (r0 : RdX chgE w (· < w.heap.size) A l) (hc0 : l.length ≤ c) (hm0 : c ≤ maxLen) (n0 : A = none → l = [] ∧ c = 0) (hi : n1 < 256) :
    Calls Tryz.prog 6 #[.slice A l.length c, .int .u8 (n1 : Int)] w fun e w' => e = .returned (.bool true) ∧ Below w.heap.size w w' := by
  have hmix : Tryz.prog.follows .mixedOrders = true := by kernel_rfl
  have hl' : (l.length : Int) ≤ 9223372036854775807 := by unfold maxLen at hm0; omega
  obtain ⟨bx, hbx, hor⟩ := or_one n1 hi
  have HBX := hid hbx
  have hbx' : (bx : Int) ≤ 255 := by omega
  have HK := hid K
  have HG := hid hg
  have HV := hid hs
  have HR := hid r0
  clear K hg hs r0 hc0 hm0 n0 hi hbx
  go_enter Tryz.func6, Tryz.ntmps6
  go_wp2_with fail
  go_loopw [5, 6] (fun v j wr => ∃ k : Nat, ∃ ls : List (Ch × Nat), j = .int .i64 k ∧ k ≤ l.length ∧ k ≤ 12 ∧ ls.map (·.1) = l.take k ∧ OwnG wr w.heap.size v ls ∧ Below w.heap.size w wr) (fun _ j _ => l.length - (RowKit.intOf j).toNat)
  case atStart => exact ⟨0, [], rfl, Nat.zero_le _, Nat.zero_le _, rfl, OwnG.nil _ _, Below.refl _ _⟩
  case round =>
    obtain ⟨k, ls, rfl, hk, hk12, hls, ho, hb⟩ := hrel
    have HO := hid ho
    have HB := hid hb
    have HL := hid hls
    have hll : ls.length = k := by have := congrArg List.length hls; rw [List.length_map, List.length_take] at this; omega
    clear ho hb hls
    by_cases hlt : k < l.length
    · by_cases h12 : k < 12
      · have hlt' : (k : Int) < (l.length : Int) := by omega
        have h12' : (k : Int) < 12 := by omega
        obtain ⟨b, off, A1, c1, rfl, hc1, hd1, he1, hr1, hn1, hx1, hx2⟩ := chg_at HR.out k hlt
        have hval := (HV.out _ (List.getElem_mem hlt)).2
        have HN := hid (show l.take (k + 1) = l.take k ++ [l[k]] from List.take_succ_eq_append_getElem hlt)
        generalize l[k] = x at *
        obtain ⟨x1, x2, z⟩ := x
        dsimp only at *
        have HC1 := hid hc1
        have HD1 := hid hd1
        have HE1 := hid he1
        have HCP := hid (fun u (hu : Below w.heap.size w u) => Wide_ty x2 A1 c1 u (by omega) (hr1.rd.below hu) hn1)
        clear hr1 hn1 hc1 hd1 he1
        go_wp2_with fail
        refine wp_region_V [19] (fun y => Below w.heap.size w y ∧ OwnG y w.heap.size u5 ls) hmix (⟨HB.out.drew, HO.out.below (Below.refl _ _).drew⟩) ?_
        change wpAnyV _ _ _ _ _ _ _ _ _
        refine wpAnyV_take (i := 0) (v := u5) 8 (kept_and (kept_below w) (kept_ownG _ _ _)) rfl (by kernel_rfl) (by kernel_rfl) (fun _ _ _ h => h) (fun _ h => h) (DoesV.reads (by rfl) fun w9 hS => by go_simp) ?_
        try simp only [getElem_toArray, getElem_cons_succ, getElem_cons_zero, Act.put, setIfInBounds_toArray, set_cons_succ, set_cons_zero]
        refine wpAnyV_take (i := 1) (v := .slice (some ⟨b, off, none⟩) l.length c) 8 (kept_and (kept_below w) (kept_ownG _ _ _)) rfl (by kernel_rfl) (by kernel_rfl) (fun _ _ _ h => h) (fun _ h => h) (DoesV.reads (by rfl) fun w9 hS => by go_simp) ?_
        try simp only [getElem_toArray, getElem_cons_succ, getElem_cons_zero, Act.put, setIfInBounds_toArray, set_cons_succ, set_cons_zero]
        refine wpAnyV_take (i := 2) (v := .int .i64 (k : Int)) 8 (kept_and (kept_below w) (kept_ownG _ _ _)) rfl (by kernel_rfl) (by kernel_rfl) (fun _ _ _ h => h) (fun _ h => h) (DoesV.reads (by rfl) fun w9 hS => by go_simp) ?_
        try simp only [getElem_toArray, getElem_cons_succ, getElem_cons_zero, Act.put, setIfInBounds_toArray, set_cons_succ, set_cons_zero]
        refine wpAnyV_take (i := 3) (v := (.pointer (some ⟨b, off + k * 3, none⟩))) 8 (kept_and (kept_below w) (kept_ownG _ _ _)) rfl (by kernel_rfl) (by kernel_rfl) (fun _ _ _ h => h) (fun _ h => h) (DoesV.reads (by rfl) fun w9 hS => by go_simp) ?_
        try simp only [getElem_toArray, getElem_cons_succ, getElem_cons_zero, Act.put, setIfInBounds_toArray, set_cons_succ, set_cons_zero]
        refine wpAnyV_take (i := 4) (v := (.pointer (some ⟨b, off + k * 3, none⟩))) 8 (kept_and (kept_below w) (kept_ownG _ _ _)) rfl (by kernel_rfl) (by kernel_rfl) (fun _ _ _ h => h) (fun _ h => h) (DoesV.reads (by rfl) fun w9 hS => by go_simp) ?_
        try simp only [getElem_toArray, getElem_cons_succ, getElem_cons_zero, Act.put, setIfInBounds_toArray, set_cons_succ, set_cons_zero]
        refine wpAnyV_take (i := 5) (v := .string ⟨x1.toArray⟩) 8 (kept_and (kept_below w) (kept_ownG _ _ _)) rfl (by kernel_rfl) (by kernel_rfl) (fun _ _ _ h => h) (fun _ h => h) (DoesV.reads (by rfl) fun w9 hS => by have q9 := (hS.1.cell (lt_of_cell HC1.out)).trans HC1.out; go_simp) ?_
        try simp only [getElem_toArray, getElem_cons_succ, getElem_cons_zero, Act.put, setIfInBounds_toArray, set_cons_succ, set_cons_zero]
        refine wpAnyV_take (i := 6) (v := .slice (some ⟨b, off, none⟩) l.length c) 8 (kept_and (kept_below w) (kept_ownG _ _ _)) rfl (by kernel_rfl) (by kernel_rfl) (fun _ _ _ h => h) (fun _ h => h) (DoesV.reads (by rfl) fun w9 hS => by go_simp) ?_
        try simp only [getElem_toArray, getElem_cons_succ, getElem_cons_zero, Act.put, setIfInBounds_toArray, set_cons_succ, set_cons_zero]
        refine wpAnyV_take (i := 7) (v := .int .i64 (k : Int)) 8 (kept_and (kept_below w) (kept_ownG _ _ _)) rfl (by kernel_rfl) (by kernel_rfl) (fun _ _ _ h => h) (fun _ h => h) (DoesV.reads (by rfl) fun w9 hS => by go_simp) ?_
        try simp only [getElem_toArray, getElem_cons_succ, getElem_cons_zero, Act.put, setIfInBounds_toArray, set_cons_succ, set_cons_zero]
        refine wpAnyV_take (i := 8) (v := (.pointer (some ⟨b, off + k * 3, none⟩))) 8 (kept_and (kept_below w) (kept_ownG _ _ _)) rfl (by kernel_rfl) (by kernel_rfl) (fun _ _ _ h => h) (fun _ h => h) (DoesV.reads (by rfl) fun w9 hS => by go_simp) ?_
        try simp only [getElem_toArray, getElem_cons_succ, getElem_cons_zero, Act.put, setIfInBounds_toArray, set_cons_succ, set_cons_zero]
        refine wpAnyV_take (i := 9) (v := (.pointer (some ⟨b, off + k * 3 + 1, none⟩))) 8 (kept_and (kept_below w) (kept_ownG _ _ _)) rfl (by kernel_rfl) (by kernel_rfl) (fun _ _ _ h => h) (fun _ h => h) (DoesV.reads (by rfl) fun w9 hS => by go_simp) ?_
        try simp only [getElem_toArray, getElem_cons_succ, getElem_cons_zero, Act.put, setIfInBounds_toArray, set_cons_succ, set_cons_zero]
        refine wpAnyV_take (i := 10) (v := .slice A1 x2.length c1) 8 (kept_and (kept_below w) (kept_ownG _ _ _)) rfl (by kernel_rfl) (by kernel_rfl) (fun _ _ _ h => h) (fun _ h => h) (DoesV.reads (by rfl) fun w9 hS => by have q9 := (hS.1.cell (lt_of_cell HD1.out)).trans HD1.out; go_simp) ?_
        try simp only [getElem_toArray, getElem_cons_succ, getElem_cons_zero, Act.put, setIfInBounds_toArray, set_cons_succ, set_cons_zero]
        refine wpAnyV_take (i := 12) (v := .slice (some ⟨b, off, none⟩) l.length c) 8 (kept_and (kept_below w) (kept_ownG _ _ _)) rfl (by kernel_rfl) (by kernel_rfl) (fun _ _ _ h => h) (fun _ h => h) (DoesV.reads (by rfl) fun w9 hS => by go_simp) ?_
        try simp only [getElem_toArray, getElem_cons_succ, getElem_cons_zero, Act.put, setIfInBounds_toArray, set_cons_succ, set_cons_zero]
        refine wpAnyV_take (i := 13) (v := .int .i64 (k : Int)) 8 (kept_and (kept_below w) (kept_ownG _ _ _)) rfl (by kernel_rfl) (by kernel_rfl) (fun _ _ _ h => h) (fun _ h => h) (DoesV.reads (by rfl) fun w9 hS => by go_simp) ?_
        try simp only [getElem_toArray, getElem_cons_succ, getElem_cons_zero, Act.put, setIfInBounds_toArray, set_cons_succ, set_cons_zero]
        refine wpAnyV_take (i := 14) (v := (.pointer (some ⟨b, off + k * 3, none⟩))) 8 (kept_and (kept_below w) (kept_ownG _ _ _)) rfl (by kernel_rfl) (by kernel_rfl) (fun _ _ _ h => h) (fun _ h => h) (DoesV.reads (by rfl) fun w9 hS => by go_simp) ?_
        try simp only [getElem_toArray, getElem_cons_succ, getElem_cons_zero, Act.put, setIfInBounds_toArray, set_cons_succ, set_cons_zero]
        refine wpAnyV_take (i := 15) (v := (.pointer (some ⟨b, off + k * 3 + 2, none⟩))) 8 (kept_and (kept_below w) (kept_ownG _ _ _)) rfl (by kernel_rfl) (by kernel_rfl) (fun _ _ _ h => h) (fun _ h => h) (DoesV.reads (by rfl) fun w9 hS => by go_simp) ?_
        try simp only [getElem_toArray, getElem_cons_succ, getElem_cons_zero, Act.put, setIfInBounds_toArray, set_cons_succ, set_cons_zero]
        refine wpAnyV_take (i := 16) (v := .bool z) 8 (kept_and (kept_below w) (kept_ownG _ _ _)) rfl (by kernel_rfl) (by kernel_rfl) (fun _ _ _ h => h) (fun _ h => h) (DoesV.reads (by rfl) fun w9 hS => by have q9 := (hS.1.cell (lt_of_cell HE1.out)).trans HE1.out; go_simp) ?_
        try simp only [getElem_toArray, getElem_cons_succ, getElem_cons_zero, Act.put, setIfInBounds_toArray, set_cons_succ, set_cons_zero]
        refine wpAnyV_only (i := 11) rfl (by kernel_rfl) rfl (fun u hS => wp_of_call (by go_simp) (HCP.out u hS.1) fun e u' ⟨g1, cap1, he, hlc1, hcm1, hrd1, hty1, hwg1, hgw1, hb1⟩ => ⟨.slice (some ⟨g1, 0, none⟩) x2.length cap1, he, (fun y => (Below w.heap.size w y ∧ OwnG y w.heap.size u5 ls) ∧ NineG y (u.heap.size ≤ ·) (.slice (some ⟨g1, 0, none⟩) x2.length cap1) g1 x2), ⟨⟨below_chain hS.1 hb1, hS.2.below hb1⟩, ⟨cap1, rfl, hwg1, hgw1, hlc1, hcm1, hrd1, hty1⟩⟩, (kept_and (kept_and (kept_below w) (kept_ownG _ _ _)) (kept_nineG _ _ _ _)), fun _ y h => h.1, ?_⟩)
        try simp only [getElem_toArray, getElem_cons_succ, getElem_cons_zero, Act.put, setIfInBounds_toArray, set_cons_succ, set_cons_zero]
        have hown := fun q e => (hS.2.own.lt q e).2
        have hwu := hS.1.size
        refine wpAnyV_pure (i := 17) (v := .agg #[.string ⟨x1.toArray⟩, .slice (some ⟨g1, 0, none⟩) x2.length cap1, .bool z]) (kept_and (kept_and (kept_below w) (kept_ownG _ _ _)) (kept_nineG _ _ _ _)) rfl (by kernel_rfl) (by kernel_rfl) (fun _ _ _ h => h) (DoesV.reads (by rfl) fun w9 hS => by go_simp) ?_
        try simp only [getElem_toArray, getElem_cons_succ, getElem_cons_zero, Act.put, setIfInBounds_toArray, set_cons_succ, set_cons_zero]
        refine wpAnyV_only (i := 18) rfl (by kernel_rfl) rfl (fun y hy => wp_buildC _ rfl (x1, x2, z) (some ⟨g1, 0, none⟩) cap1 _ rfl rfl fun g8 y' hk hb hg => ⟨(fun y => ((Below w.heap.size w y ∧ OwnG y w.heap.size u5 ls) ∧ NineG y (u.heap.size ≤ ·) (.slice (some ⟨g1, 0, none⟩) x2.length cap1) g1 x2) ∧ Cs y g8 73 (chCells (x1, x2, z) (some ⟨g1, 0, none⟩) cap1).toArray), ⟨⟨⟨below_chain hy.1.1 hb, hy.1.2.below hb⟩, hy.2.below hb⟩, hk⟩, kept_and (kept_and (kept_and (kept_below w) (kept_ownG _ _ _)) (kept_nineG _ _ _ _)) (kept_cs _ _ _), fun _ y h => h.1, ?_⟩)
        try simp only [getElem_toArray, getElem_cons_succ, getElem_cons_zero, Act.put, setIfInBounds_toArray, set_cons_succ, set_cons_zero]
        refine wpAnyV_only (i := 19) rfl (by kernel_rfl) rfl (fun y hy => wp_append_x1 (E := chgG) _ _ rfl w.heap.size (w.heap.size ≤ ·) u5 ls rfl hy.1.1.2.own g8 1 rfl (chCells (x1, x2, z) (some ⟨g1, 0, none⟩) cap1) ((x1, x2, z), g1) ⟨_, rfl, hy.1.2.mono fun q _ hq => ⟨Nat.le_trans hwu hq, fun e => absurd hq (Nat.not_le.2 (hown q e))⟩⟩ 73 hy.2 (by omega) hy.1.1.1.size hy.1.1.1.size fun v3 y' ho3 hg3 => ⟨(fun y => Below w.heap.size w y ∧ OwnG y w.heap.size v3 (ls ++ [((x1, x2, z), g1)])), ⟨hy.1.1.1.grown hg3 hy.1.1.1.size (fun q e => (hy.1.1.2.own.lt q e).1), hS.2.push hwg1 ho3⟩, kept_and (kept_below w) (kept_ownG _ _ _), fun h => absurd (by simp) h, ?_⟩)
        try simp only [getElem_toArray, getElem_cons_succ, getElem_cons_zero, Act.put, setIfInBounds_toArray, set_cons_succ, set_cons_zero]
        refine wpAnyV_pure (i := 20) (v := v3) (kept_and (kept_below w) (kept_ownG _ _ _)) rfl (by kernel_rfl) (by kernel_rfl) (fun _ _ _ h => h) (DoesV.reads (by rfl) fun w9 hS => by go_simp) ?_
        try simp only [getElem_toArray, getElem_cons_succ, getElem_cons_zero, Act.put, setIfInBounds_toArray, set_cons_succ, set_cons_zero]
        refine wpAnyV_done (by kernel_rfl) (fun y1 hu => ?_) _
        have HU := hid hu
        clear hu
        go_wp2_with fail
        go_roundw
        case rel => exact ⟨k + 1, _, by go_num, hlt, h12, by rw [List.map_append, HL.out, HN.out]; rfl, HU.out.2, HU.out.1⟩
        case measure => first | omega | (simp [RowKit.intOf]; omega)
      · have hlt' : (k : Int) < (l.length : Int) := by omega
        have h12' : ¬ (k : Int) < 12 := by omega
        obtain rfl : k = 12 := by omega
        have hx12 : ls.map (·.1) = l.take 12 := HL.out
        obtain ⟨Ao, no, co, rfl⟩ : ∃ A n c, u5 = .slice A n c := by obtain ⟨A, c, e, -⟩ := HO.out.own.form; exact ⟨A, _, c, e⟩
        obtain rfl : no = ls.length := by obtain ⟨A, c, e, -⟩ := HO.out.own.form; cases e; rfl
        have hup := HO.out.up
        have OF := hid HO.out.f
        have UP := hid hup
        have OC := hid (HO.out.chgE.mono (G := (· < wr.heap.size)) fun k hk _ => hk)
        have hxl : (ls.map (·.1)).length = ls.length := List.length_map _
        have hl12 : ls.length ≤ 12 := by omega
        have HX := hid hx12
        have SX := hid (show SmallC (ls.map (·.1)) from ⟨by omega, fun z hz => by rw [hx12] at hz; have := (HV.out z (List.mem_of_mem_take hz)).1; unfold maxLen at this; exact this⟩)
        have hN := HB.out.size
        obtain ⟨N1, hN1⟩ : ∃ N, N = wr.heap.size := ⟨_, rfl⟩
        have HN1 := hid hN1
        rw [← hN1] at OF OC
        have hNN : w.heap.size ≤ N1 := by omega
        have HXL := hid hxl
        have hml : (ls.length : Int) ≤ 9223372036854775807 := by omega
        clear hup hx12 HO HL hN1 hN hll hxl
        go_wp2_with fail
        refine (New_v 1000 _ (by decide) (by decide)).mono ?_
        rintro e w1 ⟨d, rfl, hd, hb1⟩
        have hs1 := hb1.size
        have B1 := hid (below_chain HB.out hb1)
        have D1 := hid (show DiskV w1 d (fresh (2 * 500)) (N1 ≤ ·) by rw [HN1.out]; exact hd)
        have OF1 := hid (OF.out.turn (Turn.of_below hb1 (N1 ≤ ·)) fun k hk => hk)
        have OC1 := hid (OC.out.below hb1)
        have hz1 : N1 ≤ w1.heap.size := by rw [HN1.out]; exact hs1
        have F0 := hid (show ¬ N1 ≤ 0 by have := HG.out.pos; omega)
        clear hd hb1 OF OC HB HN1 hs1
        obtain ⟨q1, q2, q3⟩ := own_fresh
        have MK := hid (MakeS_v (H := 500) D1.out (HG.out.below B1.out) F0.out rfl (by rw [fresh_next]; decide) (fun k hk => Nat.le_trans hz1 hk) (by decide) (by decide))
        obtain ⟨j0, hj0⟩ : ∃ j, j = makJ (fresh (2 * 500)) [] := ⟨_, rfl⟩
        obtain ⟨r0, hr0⟩ : ∃ r, r = makR (fresh (2 * 500)) 500 [] := ⟨_, rfl⟩
        rw [← hj0, ← hr0] at MK
        rw [← hr0] at q1 q2 q3
        have Q1 := hid q1
        have Q2 := hid (And.intro q2 q3)
        clear hj0 hr0 q1 q2 q3 D1
        go_wp2_with fail
        refine MK.out.mono ?_
        rintro e w2 ⟨ht, hh⟩
        rcases hh with ⟨h0, _⟩ | ⟨_, sb, rfl, _, ho⟩
        · exact absurd Q1.out h0
        have hs2 := ht.size
        have B2 := hid (B1.out.trans (ht.below B1.out.size fun k hk => Nat.le_trans hNN hk))
        have OF2 := hid (OF1.out.turn ht fun k hk => hk)
        have OC2 := hid (OC1.out.turn ht fun k hk h => absurd hk (Nat.not_lt.2 h))
        have S2 := hid ho
        clear ht ho MK OF1 OC1 B1 Q1
        have tab := hid (comR_tab (j := j0) (s := r0.1) (H := 500) (l := ls.map (·.1)))
        have CM := hid (Commit_v HK.out S2.out (HG.out.below B2.out) F0.out (fun k hk => by omega) (Nat.zero_le _) may_nil (by rw [HXL.out]; omega) SX.out OC2.out (by have := Q2.out.1; omega) (by rw [Q2.out.2]; decide))
        rw [HXL.out] at tab
        generalize comR j0 r0.1 [] 500 (ls.map (·.1)) = r at *
        obtain ⟨OA, oc, eoc⟩ := OC2.out
        clear eoc
        clear S2 SX OC2 F0 Q2
        go_wp2_with fail
        refine CM.out.mono ?_
        rintro e w3 ⟨rfl, ht, ho⟩
        have hs3 := ht.size
        have B3 := hid (B2.out.trans (ht.below B2.out.size fun k hk => Nat.le_trans hNN hk))
        have OF3 := hid (OF2.out.turn ht fun k hk => hk)
        have hrl : r.1.rows.length ≤ 12 := by have := tab.out.2; omega
        have S3 := hid (ho.mono (G := fun k => N1 ≤ k ∧ k < w3.heap.size) fun k h1 h2 => ⟨h2, h1⟩)
        have M3 := hid tab.out.1
        clear ht ho CM OF2 B2 tab
        generalize r.1.rows = rows at *
        generalize r.1.j = j1 at *
        generalize r.1.s = s1 at *
        generalize r.1.e = e1 at *
        generalize r.2 = cut at *
        go_wp2_with fail
        refine (Rows_v HK.out S3.out M3.out (by omega)).mono ?_
        rintro e w4 ⟨A4, c4, rfl, hr4, hb4⟩
        have hs4 := hb4.size
        have S4 := hid (S3.out.below hb4)
        have W4 := hid (hr4.rowE.mono (G := fun k => w3.heap.size ≤ k ∧ k < w4.heap.size) fun k h1 h2 => ⟨h2, h1⟩)
        have B4 := hid (below_chain B3.out hb4)
        have OF4 := hid (OF3.out.turn (Turn.of_below hb4 (N1 ≤ ·)) fun k hk => hk)
        clear hr4 hb4 S3 B3 OF3
        go_wp2_with fail
        refine (Rows_v HK.out S4.out M3.out (by omega)).mono ?_
        rintro e w5 ⟨A5, c5, rfl, hr5, hb5⟩
        have hs5 := hb5.size
        have S5 := hid (S4.out.below hb5)
        have W5 := hid (W4.out.below hb5)
        have P5 := hid hr5
        have B5 := hid (below_chain B4.out hb5)
        have OF5 := hid (OF4.out.turn (Turn.of_below hb5 (N1 ≤ ·)) fun k hk => hk)
        obtain ⟨N2, hN2⟩ : ∃ N, N = w3.heap.size := ⟨_, rfl⟩
        obtain ⟨N3, hN3⟩ : ∃ N, N = w4.heap.size := ⟨_, rfl⟩
        rw [← hN2] at S5 W5
        rw [← hN3] at W5 P5
        have hO : w.heap.size ≤ N1 ∧ N1 ≤ N2 ∧ N2 ≤ N3 ∧ N3 ≤ w5.heap.size := by omega
        clear hr5 hb5 S4 W4 B4 OF4 hN2 hN3 hs4 hs5 hs3 hs2 hz1 hNN
        have hmr : (rows.length : Int) ≤ 9223372036854775807 := by omega
        have hl12 : ls.length ≤ l.length := by have := congrArg List.length HX.out; rw [List.length_map, List.length_take] at this; omega
        go_wp2_with fail
        go_loopw [12] (fun j wr => ∃ k : Nat, j = .int .i64 k ∧ k ≤ ls.length ∧ Turn w5 wr (gsBlk ls k)) (fun j _ => ls.length - (RowKit.intOf j).toNat)
        case atStart => exact ⟨0, rfl, Nat.zero_le _, gs_zero⟩
        case round =>
          obtain ⟨k, rfl, hk, ht⟩ := hrel
          have T6 := hid ht
          have B6 := hid (B5.out.trans (ht.below B5.out.size fun q hq => (OF5.out.gs hq).1))
          clear ht
          by_cases hlt : k < ls.length
          · have hlt' : (k : Int) < (ls.length : Int) := by omega
            obtain ⟨b, cap, rfl, hca, hcl, hcm, hcr, hty⟩ := OF5.out.at UP.out hlt T6.out
            have hkl : k < l.length := by omega
            obtain ⟨b', off', A2, c2, rfl, hc2, hd2, he2, hr2, -⟩ := chg_at (HR.out.below B6.out) k hkl
            have hx : ls[k].1 = l[k] := by have := congrArg (·[k]?) HX.out; simp [hlt, List.getElem?_take] at this; rw [List.getElem?_eq_getElem hkl] at this; first | exact Option.some.inj this.2 | exact this.2 | simp_all
            have hleft : ∀ n, Calls Tryz.prog 32 #[.slice (some ⟨ls[k].2, 0, none⟩) ls[k].1.2.1.length cap, .slice A2 l[k].2.1.length c2] (wr.drewN n) fun e w' => e = .returned (.bool true) ∧ wr.drewN n = w' := fun n => by rw [hx] at hcr hcl ⊢; exact Left_any l[k].2.1 A2 c2 _ cap _ hcl hcm hcr hr2.rd
            have hca2 := hca
            rw [Nat.zero_add] at hca2
            have HTY := hid hty
            have HLT := hid hlt
            clear hcr hr2 hty hcl hx hc2 he2
            go_wp2_with fail
            go_quiet (exact Calls.quiet_of_same ((hleft _).mono fun _ _ h => ⟨h.1, h.2.symm⟩))
            clear hleft
            go_wp2_with fail
            refine (Spoil_ty _ bx HBX.out _ (HTY.out.below (below_drewN (Below.refl _ _) _))).mono ?_
            rintro e w7 hsp
            obtain ⟨x, rfl⟩ := id hsp.1
            have T7 := hid (gs_turn hlt (T6.out.trans (Turn.of_below (below_drewN (Below.refl _ _) _) fun _ => False) fun _ _ h => h.elim) hsp)
            clear hsp T6 B6 HTY
            try clear hca
            try clear hca2
            go_wp2_with fail
            go_roundw
            case rel => exact ⟨k + 1, by go_num, HLT.out, T7.out⟩
            case measure => simp [RowKit.intOf]; have := HLT.out; omega
          · have hlt' : ¬ (k : Int) < (ls.length : Int) := by omega
            obtain rfl : k = ls.length := by omega
            clear hlt hk hlt'
            have P6 := hid (P5.out.turn T6.out fun q hq hh => by have := (OF5.out.gs hh).2; omega)
            have X6 := hid (show Turn w5 wr (fun q => gsBlk ls ls.length q ∨ N3 ≤ q) from T6.out.mono fun _ _ h => .inl h)
            clear T6 P5
            go_wp2_with fail
            go_loopw [13] (fun j wr => ∃ k : Nat, j = .int .i64 k ∧ k ≤ rows.length ∧ Spl 2 wr N3 A5 rows.length ∧ Turn w5 wr (fun q => gsBlk ls ls.length q ∨ N3 ≤ q)) (fun j _ => rows.length - (RowKit.intOf j).toNat)
            case atStart => exact ⟨0, rfl, Nat.zero_le _, P6.out.at.2.1.splR, X6.out⟩
            case round =>
              obtain ⟨k, rfl, hk, hsp, ht⟩ := hrel
              have P7 := hid hsp
              have T7 := hid ht
              clear hsp ht X6 P6
              by_cases hlt : k < rows.length
              · have hlt' : (k : Int) < (rows.length : Int) := by omega
                obtain ⟨b, off, v, rfl, hce, hty, hown⟩ := P7.out k hlt
                have HTY := hid hty
                have HOW := hid hown
                have HLT := hid hlt
                clear hty hown hlt
                go_wp2_with fail
                refine (Spoil_ty v bx HBX.out _ HTY.out).mono ?_
                rintro e w8 hsp
                obtain ⟨x, rfl⟩ := id hsp.1
                have P8 := hid (P7.out.spoilt HTY.out hsp)
                have T8 := hid (T7.out.trans hsp.2.1 fun q _ hq => .inr (HOW.out q hq).1)
                clear hsp P7 T7 HTY HOW hce
                go_wp2_with fail
                go_roundw
                case rel => exact ⟨k + 1, by go_num, HLT.out, P8.out, T8.out⟩
                case measure => simp [RowKit.intOf]; have := HLT.out; omega
              · have hlt' : ¬ (k : Int) < (rows.length : Int) := by omega
                have hG9 : ∀ q, (gsBlk ls ls.length q ∨ N3 ≤ q) → w.heap.size ≤ q ∧ (q < N1 ∨ N3 ≤ q) := fun q hq => by
                  rcases hq with hq | hq
                  · have := OF5.out.gs hq; omega
                  · omega
                have S9 := hid (S5.out.turn T7.out fun q hq hh => by have := hG9 q hh; omega)
                have W9 := hid (W5.out.turn T7.out fun q hq hh => by have := hG9 q hh; omega)
                have B9 := hid (B5.out.trans (T7.out.below B5.out.size fun q hq => (hG9 q hq).1))
                clear hlt hk hG9 P7 T7 S5 W5
                go_wp2_with fail
                refine (Rows_v HK.out S9.out M3.out (by omega)).mono ?_
                rintro e w10 ⟨A10, c10, rfl, hr10, hb10⟩
                have W10 := hid (W9.out.below hb10)
                have B10 := hid (below_chain B9.out hb10)
                have hcmp := Rows_any rows rows A10 A4 c10 c4 _ _ w10 (by omega) (by omega) hr10.rowE.at.2.1 W10.out.at.2.1
                rw [show decide (rows = rows) = true by simp] at hcmp
                clear hr10 hb10 W9 B9 S9
                go_wp2_with fail
                refine hcmp.mono ?_
                clear hcmp
                rintro e w11 ⟨rfl, hb11⟩
                have B11 := hid (below_chain B10.out hb11)
                clear hb11
                go_wp2_with fail
                refine (livesS_any HK.out _ (HG.out.below B11.out)).mono ?_
                rintro e w12 ⟨rfl, hb12⟩
                have B12 := hid (below_chain B11.out hb12)
                clear hb12
                go_wp2_with fail
                go_ret
                exact ⟨rfl, B12.out⟩
    · have hlt' : ¬ (k : Int) < (l.length : Int) := by omega
      have hx12 : ls.map (·.1) = l.take 12 := by rw [HL.out, List.take_of_length_le (by omega), List.take_of_length_le (by omega)]
      obtain ⟨Ao, no, co, rfl⟩ : ∃ A n c, u5 = .slice A n c := by obtain ⟨A, c, e, -⟩ := HO.out.own.form; exact ⟨A, _, c, e⟩
      obtain rfl : no = ls.length := by obtain ⟨A, c, e, -⟩ := HO.out.own.form; cases e; rfl
      have hup := HO.out.up
      have OF := hid HO.out.f
      have UP := hid hup
      have OC := hid (HO.out.chgE.mono (G := (· < wr.heap.size)) fun k hk _ => hk)
      have hxl : (ls.map (·.1)).length = ls.length := List.length_map _
      have hl12 : ls.length ≤ 12 := by omega
      have HX := hid hx12
      have SX := hid (show SmallC (ls.map (·.1)) from ⟨by omega, fun z hz => by rw [hx12] at hz; have := (HV.out z (List.mem_of_mem_take hz)).1; unfold maxLen at this; exact this⟩)
      have hN := HB.out.size
      obtain ⟨N1, hN1⟩ : ∃ N, N = wr.heap.size := ⟨_, rfl⟩
      have HN1 := hid hN1
      rw [← hN1] at OF OC
      have hNN : w.heap.size ≤ N1 := by omega
      have HXL := hid hxl
      have hml : (ls.length : Int) ≤ 9223372036854775807 := by omega
      clear hup hx12 HO HL hN1 hN hll hxl
      go_wp2_with fail
      refine (New_v 1000 _ (by decide) (by decide)).mono ?_
      rintro e w1 ⟨d, rfl, hd, hb1⟩
      have hs1 := hb1.size
      have B1 := hid (below_chain HB.out hb1)
      have D1 := hid (show DiskV w1 d (fresh (2 * 500)) (N1 ≤ ·) by rw [HN1.out]; exact hd)
      have OF1 := hid (OF.out.turn (Turn.of_below hb1 (N1 ≤ ·)) fun k hk => hk)
      have OC1 := hid (OC.out.below hb1)
      have hz1 : N1 ≤ w1.heap.size := by rw [HN1.out]; exact hs1
      have F0 := hid (show ¬ N1 ≤ 0 by have := HG.out.pos; omega)
      clear hd hb1 OF OC HB HN1 hs1
      obtain ⟨q1, q2, q3⟩ := own_fresh
      have MK := hid (MakeS_v (H := 500) D1.out (HG.out.below B1.out) F0.out rfl (by rw [fresh_next]; decide) (fun k hk => Nat.le_trans hz1 hk) (by decide) (by decide))
      obtain ⟨j0, hj0⟩ : ∃ j, j = makJ (fresh (2 * 500)) [] := ⟨_, rfl⟩
      obtain ⟨r0, hr0⟩ : ∃ r, r = makR (fresh (2 * 500)) 500 [] := ⟨_, rfl⟩
      rw [← hj0, ← hr0] at MK
      rw [← hr0] at q1 q2 q3
      have Q1 := hid q1
      have Q2 := hid (And.intro q2 q3)
      clear hj0 hr0 q1 q2 q3 D1
      go_wp2_with fail
      refine MK.out.mono ?_
      rintro e w2 ⟨ht, hh⟩
      rcases hh with ⟨h0, _⟩ | ⟨_, sb, rfl, _, ho⟩
      · exact absurd Q1.out h0
      have hs2 := ht.size
      have B2 := hid (B1.out.trans (ht.below B1.out.size fun k hk => Nat.le_trans hNN hk))
      have OF2 := hid (OF1.out.turn ht fun k hk => hk)
      have OC2 := hid (OC1.out.turn ht fun k hk h => absurd hk (Nat.not_lt.2 h))
      have S2 := hid ho
      clear ht ho MK OF1 OC1 B1 Q1
      have tab := hid (comR_tab (j := j0) (s := r0.1) (H := 500) (l := ls.map (·.1)))
      have CM := hid (Commit_v HK.out S2.out (HG.out.below B2.out) F0.out (fun k hk => by omega) (Nat.zero_le _) may_nil (by rw [HXL.out]; omega) SX.out OC2.out (by have := Q2.out.1; omega) (by rw [Q2.out.2]; decide))
      rw [HXL.out] at tab
      generalize comR j0 r0.1 [] 500 (ls.map (·.1)) = r at *
      obtain ⟨OA, oc, eoc⟩ := OC2.out
      clear eoc
      clear S2 SX OC2 F0 Q2
      go_wp2_with fail
      refine CM.out.mono ?_
      rintro e w3 ⟨rfl, ht, ho⟩
      have hs3 := ht.size
      have B3 := hid (B2.out.trans (ht.below B2.out.size fun k hk => Nat.le_trans hNN hk))
      have OF3 := hid (OF2.out.turn ht fun k hk => hk)
      have hrl : r.1.rows.length ≤ 12 := by have := tab.out.2; omega
      have S3 := hid (ho.mono (G := fun k => N1 ≤ k ∧ k < w3.heap.size) fun k h1 h2 => ⟨h2, h1⟩)
      have M3 := hid tab.out.1
      clear ht ho CM OF2 B2 tab
      generalize r.1.rows = rows at *
      generalize r.1.j = j1 at *
      generalize r.1.s = s1 at *
      generalize r.1.e = e1 at *
      generalize r.2 = cut at *
      go_wp2_with fail
      refine (Rows_v HK.out S3.out M3.out (by omega)).mono ?_
      rintro e w4 ⟨A4, c4, rfl, hr4, hb4⟩
      have hs4 := hb4.size
      have S4 := hid (S3.out.below hb4)
      have W4 := hid (hr4.rowE.mono (G := fun k => w3.heap.size ≤ k ∧ k < w4.heap.size) fun k h1 h2 => ⟨h2, h1⟩)
      have B4 := hid (below_chain B3.out hb4)
      have OF4 := hid (OF3.out.turn (Turn.of_below hb4 (N1 ≤ ·)) fun k hk => hk)
      clear hr4 hb4 S3 B3 OF3
      go_wp2_with fail
      refine (Rows_v HK.out S4.out M3.out (by omega)).mono ?_
      rintro e w5 ⟨A5, c5, rfl, hr5, hb5⟩
      have hs5 := hb5.size
      have S5 := hid (S4.out.below hb5)
      have W5 := hid (W4.out.below hb5)
      have P5 := hid hr5
      have B5 := hid (below_chain B4.out hb5)
      have OF5 := hid (OF4.out.turn (Turn.of_below hb5 (N1 ≤ ·)) fun k hk => hk)
      obtain ⟨N2, hN2⟩ : ∃ N, N = w3.heap.size := ⟨_, rfl⟩
      obtain ⟨N3, hN3⟩ : ∃ N, N = w4.heap.size := ⟨_, rfl⟩
      rw [← hN2] at S5 W5
      rw [← hN3] at W5 P5
      have hO : w.heap.size ≤ N1 ∧ N1 ≤ N2 ∧ N2 ≤ N3 ∧ N3 ≤ w5.heap.size := by omega
      clear hr5 hb5 S4 W4 B4 OF4 hN2 hN3 hs4 hs5 hs3 hs2 hz1 hNN
      have hmr : (rows.length : Int) ≤ 9223372036854775807 := by omega
      have hl12 : ls.length ≤ l.length := by have := congrArg List.length HX.out; rw [List.length_map, List.length_take] at this; omega
      go_wp2_with fail
      go_loopw [12] (fun j wr => ∃ k : Nat, j = .int .i64 k ∧ k ≤ ls.length ∧ Turn w5 wr (gsBlk ls k)) (fun j _ => ls.length - (RowKit.intOf j).toNat)
      case atStart => exact ⟨0, rfl, Nat.zero_le _, gs_zero⟩
      case round =>
        obtain ⟨k, rfl, hk, ht⟩ := hrel
        have T6 := hid ht
        have B6 := hid (B5.out.trans (ht.below B5.out.size fun q hq => (OF5.out.gs hq).1))
        clear ht
        by_cases hlt : k < ls.length
        · have hlt' : (k : Int) < (ls.length : Int) := by omega
          obtain ⟨b, cap, rfl, hca, hcl, hcm, hcr, hty⟩ := OF5.out.at UP.out hlt T6.out
          have hkl : k < l.length := by omega
          obtain ⟨b', off', A2, c2, rfl, hc2, hd2, he2, hr2, -⟩ := chg_at (HR.out.below B6.out) k hkl
          have hx : ls[k].1 = l[k] := by have := congrArg (·[k]?) HX.out; simp [hlt, List.getElem?_take] at this; rw [List.getElem?_eq_getElem hkl] at this; first | exact Option.some.inj this.2 | exact this.2 | simp_all
          have hleft : ∀ n, Calls Tryz.prog 32 #[.slice (some ⟨ls[k].2, 0, none⟩) ls[k].1.2.1.length cap, .slice A2 l[k].2.1.length c2] (wr.drewN n) fun e w' => e = .returned (.bool true) ∧ wr.drewN n = w' := fun n => by rw [hx] at hcr hcl ⊢; exact Left_any l[k].2.1 A2 c2 _ cap _ hcl hcm hcr hr2.rd
          have hca2 := hca
          rw [Nat.zero_add] at hca2
          have HTY := hid hty
          have HLT := hid hlt
          clear hcr hr2 hty hcl hx hc2 he2
          go_wp2_with fail
          go_quiet (exact Calls.quiet_of_same ((hleft _).mono fun _ _ h => ⟨h.1, h.2.symm⟩))
          clear hleft
          go_wp2_with fail
          refine (Spoil_ty _ bx HBX.out _ (HTY.out.below (below_drewN (Below.refl _ _) _))).mono ?_
          rintro e w7 hsp
          obtain ⟨x, rfl⟩ := id hsp.1
          have T7 := hid (gs_turn hlt (T6.out.trans (Turn.of_below (below_drewN (Below.refl _ _) _) fun _ => False) fun _ _ h => h.elim) hsp)
          clear hsp T6 B6 HTY
          try clear hca
          try clear hca2
          go_wp2_with fail
          go_roundw
          case rel => exact ⟨k + 1, by go_num, HLT.out, T7.out⟩
          case measure => simp [RowKit.intOf]; have := HLT.out; omega
        · have hlt' : ¬ (k : Int) < (ls.length : Int) := by omega
          obtain rfl : k = ls.length := by omega
          clear hlt hk hlt'
          have P6 := hid (P5.out.turn T6.out fun q hq hh => by have := (OF5.out.gs hh).2; omega)
          have X6 := hid (show Turn w5 wr (fun q => gsBlk ls ls.length q ∨ N3 ≤ q) from T6.out.mono fun _ _ h => .inl h)
          clear T6 P5
          go_wp2_with fail
          go_loopw [13] (fun j wr => ∃ k : Nat, j = .int .i64 k ∧ k ≤ rows.length ∧ Spl 2 wr N3 A5 rows.length ∧ Turn w5 wr (fun q => gsBlk ls ls.length q ∨ N3 ≤ q)) (fun j _ => rows.length - (RowKit.intOf j).toNat)
          case atStart => exact ⟨0, rfl, Nat.zero_le _, P6.out.at.2.1.splR, X6.out⟩
          case round =>
            obtain ⟨k, rfl, hk, hsp, ht⟩ := hrel
            have P7 := hid hsp
            have T7 := hid ht
            clear hsp ht X6 P6
            by_cases hlt : k < rows.length
            · have hlt' : (k : Int) < (rows.length : Int) := by omega
              obtain ⟨b, off, v, rfl, hce, hty, hown⟩ := P7.out k hlt
              have HTY := hid hty
              have HOW := hid hown
              have HLT := hid hlt
              clear hty hown hlt
              go_wp2_with fail
              refine (Spoil_ty v bx HBX.out _ HTY.out).mono ?_
              rintro e w8 hsp
              obtain ⟨x, rfl⟩ := id hsp.1
              have P8 := hid (P7.out.spoilt HTY.out hsp)
              have T8 := hid (T7.out.trans hsp.2.1 fun q _ hq => .inr (HOW.out q hq).1)
              clear hsp P7 T7 HTY HOW hce
              go_wp2_with fail
              go_roundw
              case rel => exact ⟨k + 1, by go_num, HLT.out, P8.out, T8.out⟩
              case measure => simp [RowKit.intOf]; have := HLT.out; omega
            · have hlt' : ¬ (k : Int) < (rows.length : Int) := by omega
              have hG9 : ∀ q, (gsBlk ls ls.length q ∨ N3 ≤ q) → w.heap.size ≤ q ∧ (q < N1 ∨ N3 ≤ q) := fun q hq => by
                rcases hq with hq | hq
                · have := OF5.out.gs hq; omega
                · omega
              have S9 := hid (S5.out.turn T7.out fun q hq hh => by have := hG9 q hh; omega)
              have W9 := hid (W5.out.turn T7.out fun q hq hh => by have := hG9 q hh; omega)
              have B9 := hid (B5.out.trans (T7.out.below B5.out.size fun q hq => (hG9 q hq).1))
              clear hlt hk hG9 P7 T7 S5 W5
              go_wp2_with fail
              refine (Rows_v HK.out S9.out M3.out (by omega)).mono ?_
              rintro e w10 ⟨A10, c10, rfl, hr10, hb10⟩
              have W10 := hid (W9.out.below hb10)
              have B10 := hid (below_chain B9.out hb10)
              have hcmp := Rows_any rows rows A10 A4 c10 c4 _ _ w10 (by omega) (by omega) hr10.rowE.at.2.1 W10.out.at.2.1
              rw [show decide (rows = rows) = true by simp] at hcmp
              clear hr10 hb10 W9 B9 S9
              go_wp2_with fail
              refine hcmp.mono ?_
              clear hcmp
              rintro e w11 ⟨rfl, hb11⟩
              have B11 := hid (below_chain B10.out hb11)
              clear hb11
              go_wp2_with fail
              refine (livesS_any HK.out _ (HG.out.below B11.out)).mono ?_
              rintro e w12 ⟨rfl, hb12⟩
              have B12 := hid (below_chain B11.out hb12)
              clear hb12
              go_wp2_with fail
              go_ret
              exact ⟨rfl, B12.out⟩
end Go.Proofs.YtfgbpinfplllgaaGreatDoor
