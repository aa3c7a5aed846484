/- SWEPT -/
import Derived.Test.YtfgbpinfplllgaaGreatDoorZBchAK
import Derived.Test.YtfgbpinfplllgaaGreatDoorZStCutB
set_option linter.unusedVariables false
set_option linter.unusedSimpArgs false
open Go.Lib (hid)
namespace Go.Proofs.YtfgbpinfplllgaaGreatDoor
open Go.RowKit Go.Shelf
set_option maxRecDepth 100000
set_option maxHeartbeats 16000000 in
theorem cuts8_walk (K : K7) (l : List Ct8) (A0 : Option Addr) (c0 : Nat) (w : World) (hg : LaidErr w) (hr : RdX cutE8 w (· < w.heap.size) A0 l) (hky : ∀ x ∈ l, x.l.length ≤ 1048576 ∧ ∀ y ∈ x.l, y.1.length ≤ maxLen) (hlc : l.length ≤ c0) (hcm : c0 ≤ maxLen) :
    Calls Tryz.prog 5 #[.slice A0 l.length c0] w fun e w' => e = .returned (.bool true) ∧ Below w.heap.size w w' := by
  have hl1 : (l.length : Int) ≤ 9223372036854775807 := by unfold maxLen at hcm; omega
  have hw0 := hg.pos
  have HK := hid K
  have HG := hid hg
  have RD := hid hr
  have KY := hid hky
  clear K hg hr hky hlc hcm
  go_enter Tryz.func5, Tryz.ntmps5
  go_wp2_with fail
  refine (New_v 90 w (by decide) (by decide)).mono ?_
  rintro e w1 ⟨d, rfl, hd, hb1⟩
  have D1 := hid (show DiskV w1 d (fresh (2 * 45)) (w.heap.size ≤ ·) from hd)
  have B1 := hid hb1
  clear hd hb1
  go_wp2_with fail
  refine (cut_makeS B1.out (HG.out.below B1.out) hw0 D1.out).mono ?_
  rintro e w2 ⟨sb0, s0, j0, rfl, ho, ht, hh, hb⟩
  have H0 := hid (show CutI8 w d sb0 0 (.slice none 0 0) [] (fun i => w.heap.size ≤ i ∧ i < w2.heap.size) s0 j0 [[]] w2 from ⟨ho, ht, hh, ⟨[[]], rfl, rfl, Nat.le_refl _⟩, fun b hb => by rw [List.mem_singleton] at hb; subst hb; decide, fun i hi => hi, LsV.nil _ _, hb⟩)
  clear ho ht hh hb B1 D1
  go_wp2_with fail
  go_loopw [5, 6, 7] (fun sv nv i wr => ∃ (k sb : Nat) (A : Option Addr) (c : Nat) (rows : List Rw) (F : Nat → Prop) (s : DS) (j : JS) (bts : List (List UInt8)), k ≤ l.length ∧ k ≤ 15 ∧ i = .int .i64 (k : Int) ∧ sv = .pointer (some ⟨sb, 0, none⟩) ∧ nv = .slice A rows.length c ∧ CutI8 w d sb k (.slice A rows.length c) rows F s j bts wr) (fun _ _ i _ => 15 - (intOf i).toNat)
  case atStart => exact ⟨0, sb0, none, 0, [], _, s0, j0, [[]], Nat.zero_le _, Nat.zero_le _, rfl, rfl, rfl, H0.out⟩
  case round =>
    clear H0
    obtain ⟨k, sb, A, c, rows, F, s, j, bts, hk, hk15, rfl, rfl, rfl, hI⟩ := hrel
    have HI := hid hI
    clear hI
    have hk1 : (k : Int) ≤ 15 := by omega
    by_cases hlt : k < l.length ∧ k < 15
    · have lt1 : (k : Int) < (l.length : Int) := by omega
      have lt2 : (k : Int) < 15 := by omega
      have HLT := hid hlt
      obtain ⟨b, off, cs, rfl, ⟨hcs, hok⟩, hat⟩ := RD.out.get k hlt.1
      obtain ⟨hz1, hz2⟩ := KY.out _ (List.getElem_mem hlt.1)
      obtain ⟨z, hzz⟩ : ∃ z, l[k] = z := ⟨_, rfl⟩
      rw [hzz] at hcs hok hz1 hz2
      subst hcs
      have CT := hid (fun u (hb : Below w.heap.size w u) => (⟨(hb.cell (lt_of_cell (hat 0 _ rfl))).trans (hat 0 _ rfl), (hb.cell (lt_of_cell (hat 1 _ rfl))).trans (hat 1 _ rfl), (hb.cell (lt_of_cell (hat 2 _ rfl))).trans (hat 2 _ rfl)⟩ : u.cell? ⟨b, off + k * 3, none⟩ = some (.slice z.b z.l.length z.c) ∧ u.cell? ⟨b, off + k * 3 + 1, none⟩ = some (.int .u8 (z.arm : Int)) ∧ u.cell? ⟨b, off + k * 3 + 2, none⟩ = some (.slice z.p z.picks.length z.pc)))
      have OK := hid hok
      have SC := hid (show SmallC z.l from ⟨by omega, fun y hy => by have := hz2 y hy; unfold maxLen at this; exact this⟩)
      have harm : (z.arm : Int) ≤ 255 := by have := hok.arm; omega
      have hzl : (z.l.length : Int) ≤ 1048576 := by omega
      have htd := HI.out.told
      have hrl := htd.len
      have hmr := htd.told.may
      have hap := ApplyRef_any rows z.l A z.b c z.c _ _ wr (small_rows hmr (by omega)) SC.out (by omega) (by omega) HI.out.now'.at.2.1 (hok.rd.below HI.out.below).at.2.1
      obtain ⟨q0, -, -⟩ := CT.out wr HI.out.below
      have HMR := hid hmr
      have HRL := hid hrl
      have HZL := hid hz1
      clear hat hok hz2 hzz htd hmr hrl hlt hz1
      cases hm : mayCP z.l
      · have HN := hid (show (mayP rows && mayCP z.l) = false by rw [HMR.out, hm]; rfl)
        clear hm
        go_wp2_with fail
        refine hap.mono ?_
        clear hap
        rintro e u1 ⟨hb1, hc1⟩
        rw [HN.out, if_neg (by decide)] at hc1
        subst hc1
        have BL := hid (below_chain HI.out.below hb1)
        obtain ⟨q0', -, -⟩ := CT.out u1 BL.out
        clear hb1 q0
        by_cases h12 : 12 < z.l.length
        · have h12' : (12 : Int) < (z.l.length : Int) := by omega
          go_wp2_with fail
          refine (livesS_any HK.out _ (HG.out.below BL.out)).mono ?_
          rintro e uf ⟨rfl, hbf⟩
          have BF := hid (below_chain BL.out hbf)
          clear hbf
          go_wp2_with fail
          go_ret
          exact ⟨rfl, BF.out⟩
        · have h12' : ¬ (12 : Int) < (z.l.length : Int) := by omega
          go_wp2_with fail
          refine (livesS_any HK.out _ (HG.out.below BL.out)).mono ?_
          rintro e uf ⟨rfl, hbf⟩
          have BF := hid (below_chain BL.out hbf)
          clear hbf
          go_wp2_with fail
          go_ret
          exact ⟨rfl, BF.out⟩
      · have HM := hid hm
        have HN := hid (show (mayP rows && mayCP z.l) = true by rw [HMR.out, hm]; rfl)
        clear hm
        obtain ⟨next, hnx⟩ : ∃ next, next = applyP rows z.l := ⟨_, rfl⟩
        have HNX := hid hnx
        clear hnx
        go_wp2_with fail
        refine hap.mono ?_
        clear hap
        rintro e u1 ⟨hb1, hc1⟩
        rw [HN.out, if_pos rfl, ← HNX.out] at hc1
        obtain ⟨v1, rfl, ho1⟩ := hc1
        obtain ⟨A1, c1, rfl, h1a, h1b, h1c, h1d⟩ := ho1.form
        have hF := HI.out.mem
        have F1 := hid (Foot.of_below (F := F) hb1 fun i hi => (hF i hi).2)
        have TH1 := hid (show LsV rowE u1 (Else F u1) (.slice A1 next.length c1) next from ⟨A1, c1, rfl, h1a.mono fun i hi hh => ⟨fun hf => by have := (hF i hf).2; omega, hi⟩, h1b, h1c, h1d⟩)
        have NW1 := hid (F1.out.lsV HI.out.now')
        have ON1 := hid (HI.out.on.below hb1)
        have BW1 := hid (below_chain HI.out.below hb1)
        obtain ⟨q0', q1, -⟩ := CT.out u1 BW1.out
        clear hb1 ho1 h1a h1b h1c h1d hF F1 q0
        by_cases h12 : 12 < z.l.length
        · have h12' : (12 : Int) < (z.l.length : Int) := by omega
          have BL := BW1
          clear q1
          go_wp2_with fail
          refine (livesS_any HK.out _ (HG.out.below BL.out)).mono ?_
          rintro e uf ⟨rfl, hbf⟩
          have BF := hid (below_chain BL.out hbf)
          clear hbf
          go_wp2_with fail
          go_ret
          exact ⟨rfl, BF.out⟩
        · have h12' : ¬ (12 : Int) < (z.l.length : Int) := by omega
          go_wp2_with fail
          clear q0' q1
          refine (step_armS ON1.out HI.out.head.light z.arm OK.out.arm).mono ?_
          rintro e u2 ⟨rfl, F2, ho, hf⟩
          have ON2 := hid ho
          have NW2 := hid (hf.lsV NW1.out)
          have TH2 := hid (hf.lsV TH1.out)
          have BW2 := hid (hf.below BW1.out fun i hi => (HI.out.mem i hi).1)
          have L2 := hid (hf.low BW1.out.size fun i hi => (HI.out.mem i hi).1)
          clear ho hf ON1 NW1 TH1 BW1
          obtain ⟨q0, -, -⟩ := CT.out u2 BW2.out
          have hst := HI.out.head.steps
          have hcom := step_comS HK.out ON2.out (HG.out.below BW2.out) (fun h => by have := L2.out 0 h; omega) (by have := BW2.out.size; omega) (by have := HRL.out; omega) HMR.out (by have := HZL.out; omega) SC.out (OK.out.rd.below BW2.out) (by show s.steps + 30000 < 4611686018427387904; omega) HI.out.head.queue
          obtain ⟨hcut, hc10, hc3⟩ := comR_cut HI.out.head HI.out.tells z.arm HM.out HI.out.told HI.out.short (by omega) (by decide) (by omega)
          rw [← HNX.out] at hcut
          generalize comR j (armed s z.arm) rows 45 z.l = r at *
          obtain ⟨⟨jR, sR, rowsR, eR⟩, cutR⟩ := r
          try dsimp only at hcom hcut hc10 hc3
          have HCM := hid hcom
          clear hcom hst
          rcases hcut with ⟨h1, rfl, rfl, e3⟩ | ⟨h1, h2, h3, h4⟩
          · obtain rfl : rows = rowsR := e3.symm
            obtain rfl : eR = 10 := h1.resolve_right hc3
            obtain rfl := hc10 rfl
            clear h1 hc10 hc3
            go_wp2_with fail
            refine HCM.out.mono ?_
            rintro e u3 ⟨rfl, F3, ho, hf⟩
            try dsimp only at ho
            have ON3 := hid ho
            have NW3 := hid (hf.lsV NW2.out)
            have TH3 := hid (hf.lsV TH2.out)
            have BW3 := hid (hf.below BW2.out L2.out)
            have L3 := hid (hf.low BW2.out.size L2.out)
            clear ho hf ON2 NW2 TH2 BW2 L2 HCM q0
            go_wp2_with fail
            refine (step_armS ON3.out HI.out.head.light 0 (by decide)).mono ?_
            rintro e u4 ⟨rfl, F4, ho, hf⟩
            have ON4 := hid ho
            have NW4 := hid (hf.lsV NW3.out)
            have BW4 := hid (hf.below BW3.out L3.out)
            have L4 := hid (hf.low BW3.out.size L3.out)
            have M4 := hid (show ∀ i, F4 i → i < u4.heap.size from fun i hi => (hf.take i hi).2)
            clear ho hf ON3 NW3 BW3 L3 TH3
            go_wp2_with fail
            refine (Rows_v HK.out ON4.out HMR.out (by have := HRL.out; omega)).mono ?_
            rintro e u5 ⟨A5, c5, rfl, hr5, hb5⟩
            have hf5 := Foot.of_below (F := F4) hb5 M4.out
            have NW5 := hid (hf5.lsV NW4.out)
            have ON5 := hid (ON4.out.below hb5)
            have BW5 := hid (below_chain BW4.out hb5)
            have hs5 := hb5.size
            have hcmp := Rows_any rows rows A5 A c5 c _ _ u5 (by have := HRL.out; omega) (by have := HRL.out; omega) hr5.rowE.at.2.1 NW5.out.at.2.1
            rw [show decide (rows = rows) = true by simp] at hcmp
            clear hr5 hb5 hf5 ON4 NW4 BW4
            go_wp2_with fail
            refine hcmp.mono ?_
            clear hcmp
            rintro e u6 ⟨rfl, hb6⟩
            have hs6 := hb6.size
            have hf6 := Foot.of_below (F := F4) hb6 fun i hi => by have := M4.out i hi; omega
            have NW6 := hid (hf6.lsV NW5.out)
            have ON6 := hid (ON5.out.below hb6)
            have BW6 := hid (below_chain BW5.out hb6)
            clear hb6 hf6 NW5 ON5 BW5
            go_wp2_with fail
            go_roundw
            case rel => exact ⟨k + 1, sb, A, c, rows, F4, _, _, bts, HLT.out.1, HLT.out.2, by go_num, rfl, rfl, ⟨ON6.out, armed_tells (armed_tells HI.out.tells), HI.out.head.arm.arm.up, HI.out.told.mono (by omega), HI.out.short, fun i hi => ⟨L4.out i hi, by have := M4.out i hi; omega⟩, NW6.out, BW6.out⟩⟩
            case measure => simp [intOf]; have := HLT.out.2; omega
          · rcases h1 with rfl | rfl
            · clear h3
              clear hc10 hc3
              have HQ := hid h2
              have H4 := hid h4
              clear h2 h4
              go_wp2_with fail
              refine HCM.out.mono ?_
              rintro e u3 ⟨rfl, F3, ho, hf⟩
              try dsimp only at ho
              have ON3 := hid ho
              have NW3 := hid (hf.lsV NW2.out)
              have TH3 := hid (hf.lsV TH2.out)
              have BW3 := hid (hf.below BW2.out L2.out)
              have L3 := hid (hf.low BW2.out.size L2.out)
              clear ho hf ON2 NW2 TH2 BW2 L2 HCM q0
              obtain ⟨-, -, q2⟩ := CT.out u3 BW3.out
              go_wp2_with fail
              clear q2
              refine (step_crash ON3.out.disk z.picks z.p z.pc ((OK.out.picks.turn (Turn.of_below BW3.out (fun _ => False)) fun _ _ h => h).rd) OK.out.wf HQ.out OK.out.few).mono ?_
              rintro e u4 ⟨rfl, F4, hd4, hf4⟩
              obtain ⟨bts', rows', hh, htd, hsh, hor, heq⟩ := H4.out z.picks
              have D4 := hid hd4
              have NW4 := hid (hf4.lsV NW3.out)
              have TH4 := hid (hf4.lsV TH3.out)
              have BW4 := hid (hf4.below BW3.out L3.out)
              have L4 := hid (hf4.low BW3.out.size L3.out)
              have HH := hid hh
              have TD := hid htd
              have SHT := hid hsh
              clear hd4 hf4 hh htd hsh ON3 NW3 TH3 BW3 L3 H4
              go_wp2_with fail
              refine (step_openS HK.out D4.out (HG.out.below BW4.out) HH.out TD.out SHT.out (by omega) (by omega)).mono ?_
              rintro e u5 ⟨sb5, j5, F5, rfl, ho5, ht5, hf5, hb5⟩
              have ON5 := hid ho5
              have T5 := hid ht5
              have NW5 := hid (hf5.lsV NW4.out)
              have TH5 := hid (hf5.lsV TH4.out)
              have BW5 := hid (below_chain BW4.out hb5)
              have L5 := hid (hf5.low BW4.out.size L4.out)
              have M5 := hid (show ∀ i, F5 i → i < u5.heap.size from fun i hi => (hf5.take i hi).2)
              have hrl' := TD.out.len
              have HMR' := hid TD.out.told.may
              clear ho5 ht5 hf5 hb5 D4 NW4 TH4 BW4 L4
              go_wp2_with fail
              refine (Rows_v HK.out ON5.out HMR'.out (by omega)).mono ?_
              rintro e u6 ⟨A6, c6, rfl, hr6, hb6⟩
              have hf6 := Foot.of_below (F := F5) hb6 M5.out
              have hs6 := hb6.size
              have NW6 := hid (hf6.lsV NW5.out)
              have TH6 := hid (hf6.lsV TH5.out)
              have ON6 := hid (ON5.out.below hb6)
              have BW6 := hid (below_chain BW5.out hb6)
              have GT6 := hid (show LsV rowE u6 (Else F5 u6) (.slice A6 rows'.length c6) rows' from hr6.rowE.mono8 fun i hi hh => ⟨fun hf => by have := M5.out i hf; omega, hi⟩)
              have hlr := HRL.out
              have hln : next.length ≤ 12 * k + 12 := by rw [HNX.out]; have := stApply_len z.l rows; omega
              clear hr6 hb6 hf6 NW5 TH5 BW5 ON5 HMR'
              obtain rfl := heq (by first | rfl | trivial)
              clear hor heq
              have hcmp := Rows_any rows' rows' A6 A1 c6 c1 _ _ u6 (by omega) (by omega) GT6.out.at.2.1 TH6.out.at.2.1
              rw [show decide (rows' = rows') = true by simp] at hcmp
              go_wp2_with fail
              refine hcmp.mono ?_
              clear hcmp
              rintro e u7 ⟨rfl, hb7⟩
              have C7 := hid hb7
              clear hb7
              go_wp2_with fail
              go_roundw
              case rel =>
                have hfc := Foot.of_below (F := F5) C7.out fun i hi => by have := M5.out i hi; omega
                have hsc := (C7.out).size
                exact ⟨k + 1, sb5, A6, c6, rows', F5, _, j5, bts', HLT.out.1, HLT.out.2, by go_num, rfl, rfl, ⟨ON6.out.below C7.out, T5.out, HH.out, TD.out.mono (by omega), SHT.out, fun i hi => ⟨L5.out i hi, by have := M5.out i hi; omega⟩, hfc.lsV GT6.out, below_chain BW6.out C7.out⟩⟩
              case measure => simp [intOf]; have := HLT.out.2; omega
            · clear h3
              clear hc10 hc3
              have HQ := hid h2
              have H4 := hid h4
              clear h2 h4
              go_wp2_with fail
              refine HCM.out.mono ?_
              rintro e u3 ⟨rfl, F3, ho, hf⟩
              try dsimp only at ho
              have ON3 := hid ho
              have NW3 := hid (hf.lsV NW2.out)
              have TH3 := hid (hf.lsV TH2.out)
              have BW3 := hid (hf.below BW2.out L2.out)
              have L3 := hid (hf.low BW2.out.size L2.out)
              clear ho hf ON2 NW2 TH2 BW2 L2 HCM q0
              obtain ⟨-, -, q2⟩ := CT.out u3 BW3.out
              go_wp2_with fail
              clear q2
              refine (step_crash ON3.out.disk z.picks z.p z.pc ((OK.out.picks.turn (Turn.of_below BW3.out (fun _ => False)) fun _ _ h => h).rd) OK.out.wf HQ.out OK.out.few).mono ?_
              rintro e u4 ⟨rfl, F4, hd4, hf4⟩
              obtain ⟨bts', rows', hh, htd, hsh, hor, heq⟩ := H4.out z.picks
              have D4 := hid hd4
              have NW4 := hid (hf4.lsV NW3.out)
              have TH4 := hid (hf4.lsV TH3.out)
              have BW4 := hid (hf4.below BW3.out L3.out)
              have L4 := hid (hf4.low BW3.out.size L3.out)
              have HH := hid hh
              have TD := hid htd
              have SHT := hid hsh
              clear hd4 hf4 hh htd hsh ON3 NW3 TH3 BW3 L3 H4
              go_wp2_with fail
              refine (step_openS HK.out D4.out (HG.out.below BW4.out) HH.out TD.out SHT.out (by omega) (by omega)).mono ?_
              rintro e u5 ⟨sb5, j5, F5, rfl, ho5, ht5, hf5, hb5⟩
              have ON5 := hid ho5
              have T5 := hid ht5
              have NW5 := hid (hf5.lsV NW4.out)
              have TH5 := hid (hf5.lsV TH4.out)
              have BW5 := hid (below_chain BW4.out hb5)
              have L5 := hid (hf5.low BW4.out.size L4.out)
              have M5 := hid (show ∀ i, F5 i → i < u5.heap.size from fun i hi => (hf5.take i hi).2)
              have hrl' := TD.out.len
              have HMR' := hid TD.out.told.may
              clear ho5 ht5 hf5 hb5 D4 NW4 TH4 BW4 L4
              go_wp2_with fail
              refine (Rows_v HK.out ON5.out HMR'.out (by omega)).mono ?_
              rintro e u6 ⟨A6, c6, rfl, hr6, hb6⟩
              have hf6 := Foot.of_below (F := F5) hb6 M5.out
              have hs6 := hb6.size
              have NW6 := hid (hf6.lsV NW5.out)
              have TH6 := hid (hf6.lsV TH5.out)
              have ON6 := hid (ON5.out.below hb6)
              have BW6 := hid (below_chain BW5.out hb6)
              have GT6 := hid (show LsV rowE u6 (Else F5 u6) (.slice A6 rows'.length c6) rows' from hr6.rowE.mono8 fun i hi hh => ⟨fun hf => by have := M5.out i hf; omega, hi⟩)
              have hlr := HRL.out
              have hln : next.length ≤ 12 * k + 12 := by rw [HNX.out]; have := stApply_len z.l rows; omega
              clear hr6 hb6 hf6 NW5 TH5 BW5 ON5 HMR'
              clear heq
              by_cases hsame : rows' = rows
              · obtain rfl := hsame
                clear hor
                have hcmp := Rows_any rows' rows' A6 A c6 c _ _ u6 (by omega) (by omega) GT6.out.at.2.1 NW6.out.at.2.1
                rw [show decide (rows' = rows') = true by simp] at hcmp
                go_wp2_with fail
                refine hcmp.mono ?_
                clear hcmp
                rintro e u7 ⟨rfl, hb7⟩
                have C7 := hid hb7
                clear hb7
                go_wp2_with fail
                go_roundw
                case rel =>
                  have hfc := Foot.of_below (F := F5) C7.out fun i hi => by have := M5.out i hi; omega
                  have hsc := (C7.out).size
                  exact ⟨k + 1, sb5, A6, c6, rows', F5, _, j5, bts', HLT.out.1, HLT.out.2, by go_num, rfl, rfl, ⟨ON6.out.below C7.out, T5.out, HH.out, TD.out.mono (by omega), SHT.out, fun i hi => ⟨L5.out i hi, by have := M5.out i hi; omega⟩, hfc.lsV GT6.out, below_chain BW6.out C7.out⟩⟩
                case measure => simp [intOf]; have := HLT.out.2; omega
              · obtain rfl := hor.resolve_left hsame
                clear hor
                have hcmp := Rows_any rows' rows A6 A c6 c _ _ u6 (by omega) (by omega) GT6.out.at.2.1 NW6.out.at.2.1
                rw [show decide (rows' = rows) = false by simp [hsame]] at hcmp
                go_wp2_with fail
                refine hcmp.mono ?_
                clear hcmp
                rintro e u7 ⟨rfl, hb7⟩
                have C7 := hid hb7
                clear hb7
                clear hsame
                have hcmp := Rows_any rows' rows' A6 A1 c6 c1 _ _ u7 (by omega) (by omega) (GT6.out.below C7.out).at.2.1 (TH6.out.below C7.out).at.2.1
                rw [show decide (rows' = rows') = true by simp] at hcmp
                go_wp2_with fail
                refine hcmp.mono ?_
                clear hcmp
                rintro e u8 ⟨rfl, hb8⟩
                have C8 := hid (below_chain C7.out hb8)
                clear hb8
                go_wp2_with fail
                go_roundw
                case rel =>
                  have hfc := Foot.of_below (F := F5) C8.out fun i hi => by have := M5.out i hi; omega
                  have hsc := (C8.out).size
                  exact ⟨k + 1, sb5, A6, c6, rows', F5, _, j5, bts', HLT.out.1, HLT.out.2, by go_num, rfl, rfl, ⟨ON6.out.below C8.out, T5.out, HH.out, TD.out.mono (by omega), SHT.out, fun i hi => ⟨L5.out i hi, by have := M5.out i hi; omega⟩, hfc.lsV GT6.out, below_chain BW6.out C8.out⟩⟩
                case measure => simp [intOf]; have := HLT.out.2; omega
    · have BL := hid HI.out.below
      clear HI
      by_cases hge : k < l.length
      · have hge' : (k : Int) < (l.length : Int) := by omega
        have h15 : ¬ (k : Int) < 15 := by omega
        go_wp2_with fail
        refine (livesS_any HK.out _ (HG.out.below BL.out)).mono ?_
        rintro e uf ⟨rfl, hbf⟩
        have BF := hid (below_chain BL.out hbf)
        clear hbf
        go_wp2_with fail
        go_ret
        exact ⟨rfl, BF.out⟩
      · have hge' : ¬ (k : Int) < (l.length : Int) := by omega
        go_wp2_with fail
        refine (livesS_any HK.out _ (HG.out.below BL.out)).mono ?_
        rintro e uf ⟨rfl, hbf⟩
        have BF := hid (below_chain BL.out hbf)
        clear hbf
        go_wp2_with fail
        go_ret
        exact ⟨rfl, BF.out⟩
end Go.Proofs.YtfgbpinfplllgaaGreatDoor
