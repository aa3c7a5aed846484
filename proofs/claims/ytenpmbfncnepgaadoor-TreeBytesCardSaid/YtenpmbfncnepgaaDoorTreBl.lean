/- TreeBytes: the walk. -/
import Derived.Test.YtenpmbfncnepgaaDoorTreB
namespace Go.Proofs.YtenpmbfncnepgaaDoor
open Go.RowKit Go.Shelf
set_option linter.unusedVariables false
set_option maxRecDepth 100000
set_option linter.unusedSimpArgs false

theorem ndC_new (dv nv : Value) : ndC (newN newT false) dv nv = [.int .u32 2, .int .u32 2, .bool false, .int .u64 (newN newT false).chg, dv, nv] := by rfl
theorem make_f : makeT newT (1, 1) nmF false = (fileT nmF, newN newT false, 0) := make_file name_f
theorem own_blockY {w : World} {base : Nat} {A : Option Addr} {n c : Nat} {l : List UInt8} (h : OwnY w base (.slice A n c) l) (hne : 1 ≤ l.length) : ∃ g, A = some ⟨g, 0, none⟩ ∧ base ≤ g := by
  obtain ⟨⟨xs, h1, h2⟩, h3⟩ := h
  rcases h1.2 with ⟨_, h0⟩ | ⟨g, cap, cur, hv, hb, _⟩
  · omega
  · cases hv
    exact ⟨g, rfl, hb⟩
theorem partW_zero (L : List UInt8) (p : Nat) (D : List UInt8) : partW L p D 0 = L := by
  unfold partW
  rw [List.take_zero, List.append_nil, Nat.add_zero, List.take_append_drop]
/-- a slice's length -/
def lenV : Value → Nat
  | .slice _ n _ => n
  | _ => 0
set_option maxHeartbeats 32000000 in
theorem bytes13_walk (K : K13) (l : List Ac) (A : Option Addr) (c : Nat) (w : World) (hT : Tabs w) (hr : RdX actE w (fun _ => True) A l) (hl : (l.length : Int) ≤ 9223372036854775807) :
    Calls Tryd.prog 3 #[.slice A l.length c] w fun e w' => e = .returned (.bool true) ∧ Below w.heap.size w w' := by
  have HK := Lib.hid K
  have HT := Lib.hid hT
  have HR := Lib.hid hr
  have hmix : Tryd.prog.follows .mixedOrders = true := by kernel_rfl
  clear K hT hr
  go_enter Tryd.func3, Tryd.ntmps3
  go_wp2_with fail
  refine (HK.out.new w).mono ?_
  rintro e w1 ⟨c0, rfl, ht, hb⟩
  have T0 := Lib.hid (TrAt.mono (G := fun _ => True) ht fun _ _ _ => trivial)
  have B1 := Lib.hid hb
  clear ht hb
  go_wp2_with fail
  refine (root_v w1).mono ?_
  rintro e w2 ⟨rfl, hb⟩
  have B2 := Lib.hid hb
  have B02 := Lib.hid (below_chain B1.out hb)
  clear hb
  go_wp2_with fail
  have hm := HK.out.make newT c0 (1, 1) nmF false (fun _ => True) w2 (HT.out.below B02.out) (T0.out.below B2.out) ⟨by decide, by decide⟩ may_new
  rw [make_f] at hm
  refine hm.mono ?_
  clear hm
  rintro e w3 ⟨ts, ns, rfl, ht, hn, hb⟩
  have TA := Lib.hid (show TrAt w3 (· < w3.heap.size) ts (fileT nmF) from ht.mono fun k hk _ => hk)
  have NA := Lib.hid (show NdAt w3 (· < w3.heap.size) ns (newN newT false) from hn.mono fun k hk _ => hk)
  have B03 := Lib.hid (below_chain B02.out hb)
  clear ht hn hb
  go_wp2_with (first
    | ((with_reducible show wpList _ _ _ _ _ w3); refine wpList_allocS rfl 31 rfl treeZ treeZero ?_; intro g3 w4 hk1 hb1 hg1; go_frame; have C4 := Lib.hid hk1; have B4 := Lib.hid hb1; have G4 := Lib.hid hg1; clear hk1 hb1 hg1)
    | ((with_reducible show wpList _ _ _ _ _ w4); refine wpList_allocS rfl 34 rfl nodeZ nodeZero ?_; intro g4 w5 hk1 hb1 hg1; go_frame; have C5 := Lib.hid hk1; have B5 := Lib.hid hb1; have G5 := Lib.hid hg1; have C45 := Lib.hid (C4.out.below hb1 C4.out.lt); clear hk1 hb1 hg1)
    | ((with_reducible show wpList _ _ _ _ _ w5); refine wpList_storeS rfl 31 _ _ rfl g3 rfl ts treeZ rfl C45.out (by rw [TA.out.len]; rfl) TA.out.one (by rw [TA.out.len]; exact infoTree) ?_; intro w6 hk2 ht2; go_frame; have C6 := Lib.hid hk2; have C56 := Lib.hid (C5.out.turn ht2 (by have := G5.out; have := C4.out.lt; omega)); have D6 := Lib.hid ht2; clear hk2 ht2)
    | ((with_reducible show wpList _ _ _ _ _ w6); refine wpList_storeS rfl 34 _ _ rfl g4 rfl ns nodeZ rfl C56.out (by rw [NA.out.len]; rfl) NA.out.one (by rw [NA.out.len]; exact infoNode) ?_; intro w7 hk2 ht2; go_frame; have C67 := Lib.hid (C6.out.turn ht2 (by have := G5.out; have := C4.out.lt; omega)); have B7 := Lib.hid (show Below w3.heap.size w3 w7 from below_turn (below_turn (below_chain B4.out B5.out) D6.out (below_chain B4.out B5.out).size G4.out) ht2 (Nat.le_trans (below_chain B4.out B5.out).size D6.out.size) (Nat.le_trans B4.out.size G5.out)); obtain ⟨dv2, nv2, e2, -⟩ := NA.out; have q20 : w7.cell? ⟨g4, 0, none⟩ = some (.int .u32 2) := hk2.cell 0 (by rw [e2, ndC_new]; rfl); have q21 : w7.cell? ⟨g4, 1, none⟩ = some (.int .u32 2) := hk2.cell 1 (by rw [e2, ndC_new]; rfl); clear e2 hk2 ht2)
    | ((with_reducible show wpList _ _ _ _ _ w7); refine wpList_allocS rfl 39 rfl (hdC (0, 0)) (fun w => by kernel_rfl) ?_; intro g6 w8 hk1 hb1 hg1; go_frame; have C8 := Lib.hid hk1; have B8 := Lib.hid hb1; have G8 := Lib.hid hg1; have C68 := Lib.hid (C67.out.below hb1 C67.out.lt); clear hk1 hb1 hg1)
    | ((with_reducible show wpList _ _ _ _ _ w8); refine wpList_storeS rfl 39 _ _ rfl g6 rfl (hdC (2, 2)) (hdC (0, 0)) rfl C8.out rfl (by intro v hv; simp [hdC] at hv; rcases hv with rfl | rfl <;> rfl) infoHandle ?_; intro w9 hk2 ht2; go_frame; have C9 := Lib.hid hk2; have C3 := Lib.hid (C68.out.turn ht2 (by have := G8.out; have := C67.out.lt; omega)); have B9 := Lib.hid (show Below w7.heap.size w7 w9 from below_turn B8.out ht2 B8.out.size G8.out); clear hk2 ht2)
    | fail)
  clear q20 q21
  have B39 := Lib.hid (below_chain B7.out B9.out)
  have B09 := Lib.hid (below_chain B03.out B39.out)
  have HG3 := Lib.hid (show w.heap.size ≤ g3 from Nat.le_trans B03.out.size G4.out)
  have H36 := Lib.hid (show g3 ≠ g6 from by have := G8.out; have := C67.out.lt; omega)
  have HG9 := Lib.hid (show g3 < w9.heap.size from C3.out.lt)
  have HG6 := Lib.hid (show g6 < w9.heap.size from C9.out.lt)
  have T3 := Lib.hid (show TrAt w9 (fun k => k ≠ g3 ∧ k < w9.heap.size) ts (fileT nmF) from (TA.out.below B39.out).mono fun k hk h => ⟨by have := G4.out; omega, hk⟩)
  go_loopw [7, 8] (fun v j wr => ∃ (k : Nat) (t : Tr) (W : List UInt8) (cs : List Value), j = .int .i64 k ∧ k ≤ l.length ∧ k ≤ 40 ∧ FileI t W k ∧ W.length ≤ 4096 ∧ OwnY wr w9.heap.size v W ∧ Cs wr g3 31 cs.toArray ∧ Cs wr g6 39 (hdC (2, 2)).toArray ∧ TrAt wr (fun k => k ≠ g3 ∧ v.ownBlock ≠ some k ∧ k < wr.heap.size) cs t ∧ Below w.heap.size w wr ∧ w9.heap.size ≤ wr.heap.size) (fun _ j _ => l.length - (RowKit.intOf j).toNat)
  case atStart => exact ⟨0, _, [], ts, rfl, Nat.zero_le _, Nat.zero_le _, file_start, Nat.zero_le _, OwnX.nil _ _ _, C3.out, C9.out, T3.out.mono (fun k hk h => ⟨h.1, (fun e => by cases e), hk⟩), B09.out, Nat.le_refl _⟩
  case round =>
    obtain ⟨k, t, W, cs, rfl, hk, hk40, hF, hW, hv, hc, hc6, ht, hb, hsz⟩ := hrel
    have HFI := Lib.hid hF
    have HWL := Lib.hid hW
    have HOV := Lib.hid hv
    have HC := Lib.hid hc
    have HC6 := Lib.hid hc6
    have HTR := Lib.hid ht
    have HB := Lib.hid hb
    have HSZ := Lib.hid hsz
    have H40 := Lib.hid hk40
    clear hF hW hv hc hc6 ht hb hsz hk40
    by_cases hlt : k < l.length
    · by_cases h40 : k < 40
      · have i40 : (k : Int) < 40 := by omega
        obtain ⟨b, off, xs, rfl, hat, hel⟩ := HR.out.get k hlt
        obtain ⟨dv, rfl, hd, ho⟩ := hat
        have HD := Lib.hid hd
        have HO := Lib.hid ho
        have HAT := Lib.hid (At.later hel HB.out)
        generalize l[k] = x at *
        have q7 : wr.cell? ⟨b, off + k * 9 + 7, none⟩ = some (.int .u32 (x.off : Int)) := HAT.out 7 _ rfl
        have q8 : wr.cell? ⟨b, off + k * 9 + 8, none⟩ = some dv := HAT.out 8 _ rfl
        clear hel hd ho h40
        obtain ⟨Ad, cd, rfl, hrd, hnil, hcap, hmax⟩ := HD.out
        have RD := Lib.hid hrd.rd
        clear hrd hnil hcap hmax
        obtain ⟨A7, c7, rfl, -⟩ := HOV.out.form
        go_wp2_with (first
          | ((with_reducible show wpList _ _ _ _ _ wr); refine wpList_loadS rfl 31 _ rfl g3 rfl cs HC.out _ Tryd.underlying31 rfl (by rw [HTR.out.len]; exact infoTree) ?_; go_frame)
          | ((with_reducible show wpList _ _ _ _ _ wr); refine wpList_loadS rfl 39 _ rfl g6 rfl (hdC (2, 2)) HC6.out _ Tryd.underlying39 rfl infoHandle ?_; go_frame)
          | fail)
        obtain ⟨p, hp⟩ : ∃ p : Nat, p = x.off % 4096 := ⟨_, rfl⟩
        have ep : (x.off : Int) % 4096 = (p : Int) := by omega
        rw [ep]
        have HP := Lib.hid (show p < 4096 by omega)
        clear hp ep q7 q8
        have HS := Lib.hid (show (((writeT t (2, 2) p x.data).2 = 0) ∧ goodW p x.data ∧ FileI (writeT t (2, 2) p x.data).1 (putB W p x.data) (k + 1)) ∨ (((writeT t (2, 2) p x.data).2 = 8) ∧ ¬ goodW p x.data ∧ FileI (writeT t (2, 2) p x.data).1 W (k + 1)) by by_cases hg : goodW p x.data; exact .inl ⟨(HFI.out.good (by have := H40.out; omega) hg).1, hg, (HFI.out.good (by have := H40.out; omega) hg).2⟩; exact .inr ⟨(HFI.out.bad hg).1, hg, (HFI.out.bad hg).2⟩)
        refine (HK.out.write t cs (2, 2) p (.slice Ad x.data.length cd) x.data (fun k => k ≠ g3 ∧ (Value.slice A7 W.length c7).ownBlock ≠ some k ∧ k < wr.heap.size) (fun _ => True) wr (HT.out.below HB.out) HTR.out ⟨by decide, by decide⟩ (by have := HP.out; omega) (HD.out.below HB.out) HFI.out.may).mono ?_
        rintro e w5 ⟨ds, rfl, ht, hb⟩
        generalize (writeT t (2, 2) p x.data).1 = X at *
        generalize (writeT t (2, 2) p x.data).2 = s at *
        have TD := Lib.hid ht.gapF
        have BR5 := Lib.hid hb
        clear ht hb
        generalize hdt : x.data = D at *
        clear hdt
        go_wp2_with (first
          | ((with_reducible show wpList _ _ _ _ _ w5); refine wpList_allocS rfl 31 rfl treeZ treeZero ?_; intro g11 w6 hk1 hb1 hg1; go_frame; have C6 := Lib.hid hk1; have B6 := Lib.hid hb1; have G6 := Lib.hid hg1; clear hk1 hb1 hg1)
          | ((with_reducible show wpList _ _ _ _ _ w6); refine wpList_storeS rfl 31 _ _ rfl g11 rfl ds treeZ rfl C6.out (by rw [TD.out.len]; rfl) TD.out.one (by rw [TD.out.len]; exact infoTree) ?_; intro w7 hk2 ht2; go_frame; have C7 := Lib.hid hk2; have B57 := Lib.hid (show Below w5.heap.size w5 w7 from below_turn B6.out ht2 B6.out.size G6.out); have CUT : True := trivial; clear hk2 ht2)
          | (clear CUT; (with_reducible show wpList _ _ _ (⟨some 60, _, _, _, _, _⟩ :: _) _ w7); refine list_cut (fun a a1 u => w7 = u ∧ ∃ (v59 v60 v61 v62 v63 v64 v65 v66 v67 v68 v69 v70 v71 v72 v73 v74 v75 v76 : Value), a1 = (((((((((((((((((((a.put (some 59) v59).put (some 60) v60).put (some 61) v61).put (some 62) v62).put (some 63) v63).put (some 64) v64).put (some 65) v65).put (some 66) v66).put (some 67) v67).put (some 68) v68).put (some 69) v69).put (some 70) v70).put (some 71) v71).put (some 72) v72).put (some 73) v73).put (some 74) v74).put (some 75) v75).put (some 76) v76).put (some 77) (.bool false))) ?_ ?_; refine stop_here ?_)
          | fail)
        · refine go_on ?_
          have ip : (p : Int) < 4096 := by have := HP.out; omega
          rcases HS.out with ⟨rfl, hg, -⟩ | ⟨rfl, hg, -⟩
          · have i1 : (1 : Int) ≤ D.length := by have := hg.1; omega
            have i2 : (D.length : Int) ≤ 64 := by have := hg.2.1; omega
            have i3 : (p : Int) + D.length ≤ 4096 := by have := hg.2.2; omega
            clear hg
            go_wp2_with fail
            trace_state
            all_goals first | exact ⟨rfl, rfl, _, _, _, _, _, _, _, _, _, _, _, _, _, _, _, _, _, _, rfl⟩ | exact ⟨rfl, _, _, _, _, _, _, _, _, _, _, _, _, _, _, _, _, _, _, rfl⟩ | exact ⟨_, _, _, _, _, _, _, _, _, _, _, _, _, _, _, _, _, _, rfl⟩
          · by_cases i1 : (1 : Int) ≤ D.length
            · by_cases i2 : (D.length : Int) ≤ 64
              · have i3 : ¬ (p : Int) + D.length ≤ 4096 := by intro h; exact hg ⟨by omega, by omega, by omega⟩
                clear hg
                go_wp2_with fail
                all_goals first | exact ⟨rfl, rfl, _, _, _, _, _, _, _, _, _, _, _, _, _, _, _, _, _, _, rfl⟩ | exact ⟨rfl, _, _, _, _, _, _, _, _, _, _, _, _, _, _, _, _, _, _, rfl⟩ | exact ⟨_, _, _, _, _, _, _, _, _, _, _, _, _, _, _, _, _, _, rfl⟩
              · clear hg; go_wp2_with fail
                all_goals first | exact ⟨rfl, rfl, _, _, _, _, _, _, _, _, _, _, _, _, _, _, _, _, _, _, rfl⟩ | exact ⟨rfl, _, _, _, _, _, _, _, _, _, _, _, _, _, _, _, _, _, _, rfl⟩ | exact ⟨_, _, _, _, _, _, _, _, _, _, _, _, _, _, _, _, _, _, rfl⟩
            · clear hg; go_wp2_with fail
              all_goals first | exact ⟨rfl, rfl, _, _, _, _, _, _, _, _, _, _, _, _, _, _, _, _, _, _, rfl⟩ | exact ⟨rfl, _, _, _, _, _, _, _, _, _, _, _, _, _, _, _, _, _, _, rfl⟩ | exact ⟨_, _, _, _, _, _, _, _, _, _, _, _, _, _, _, _, _, _, rfl⟩
        rintro a1 u ⟨rfl, v59, v60, v61, v62, v63, v64, v65, v66, v67, v68, v69, v70, v71, v72, v73, v74, v75, v76, rfl⟩
        try simp only [List.getElem_toArray, List.getElem_cons_succ, List.getElem_cons_zero, Act.put, List.setIfInBounds_toArray, List.set_cons_succ, List.set_cons_zero]
        have SZ5 := Lib.hid (show wr.heap.size ≤ w5.heap.size from BR5.out.size)
        have BR7 := Lib.hid (below_chain BR5.out B57.out)
        have BW7 := Lib.hid (below_chain HB.out BR7.out)
        have C37 := Lib.hid (HC.out.below BR7.out HC.out.lt)
        have C67h := Lib.hid (HC6.out.below BR7.out HC6.out.lt)
        have OV7 := Lib.hid (OwnY.below HOV.out BR7.out)
        have HLT := Lib.hid (show ∀ q, (Value.slice A7 W.length c7).ownBlock = some q → w9.heap.size ≤ q ∧ q < wr.heap.size from fun q h => OwnX.lt HOV.out q h)
        have G11 := Lib.hid (show wr.heap.size ≤ g11 from Nat.le_trans SZ5.out G6.out)
        have TD7 := Lib.hid (show TrAt w7 (fun k => k ≠ g3 ∧ (Value.slice A7 W.length c7).ownBlock ≠ some k ∧ k < w7.heap.size) ds X from (TD.out.below B57.out).mono fun q hq hh => ⟨by have h1 := HG9.out; have h2 := HSZ.out; rcases hh.1 with h | h; exact h.1; omega, (by rcases hh.1 with h | h; exact h.2.1; intro e; have := (HLT.out q e).2; omega), hq⟩)
        have SZ7 := Lib.hid (show w9.heap.size ≤ w7.heap.size from Nat.le_trans HSZ.out BR7.out.size)
        rcases HS.out with ⟨rfl, hg, hf⟩ | ⟨rfl, hg, hf⟩
        · have HFP := Lib.hid hf
          have HG := Lib.hid hg
          clear HS hg hf
          have ip : (p : Int) < 4096 := by have := HP.out; omega
          have i2 : (D.length : Int) ≤ 64 := by have := HG.out.2.1; omega
          go_wp2_with fail
          go_loopw [7] (fun v wz => ∃ m, W.length + m ≤ max W.length (p + D.length) ∧ OwnY wz w9.heap.size v (W ++ List.replicate m 0) ∧ Turn w7 wz (fun q => (Value.slice A7 W.length c7).ownBlock = some q) ∧ ∀ q, v.ownBlock = some q → (Value.slice A7 W.length c7).ownBlock = some q ∨ w7.heap.size ≤ q) (fun v _ => p + D.length - lenV v)
          case atStart => exact ⟨0, by omega, by simpa using OV7.out, Turn.refl _ _, fun q h => .inl h⟩
          case round =>
            obtain ⟨m, hm, ho2, ht2, hq2⟩ := hrel
            obtain ⟨Az, cz, rfl, -⟩ := ho2.form
            have HM := Lib.hid (show (W ++ List.replicate m (0 : UInt8)).length = W.length + m by rw [List.length_append, List.length_replicate])
            have HMM := Lib.hid hm
            have HPM := Lib.hid (pad_more W m)
            have HPD := Lib.hid (show m = p + D.length - W.length → W ++ List.replicate m (0 : UInt8) = padB W (p + D.length) from fun e => by rw [e]; rfl)
            have HO2 := Lib.hid ho2
            have HT2 := Lib.hid ht2
            have HQ2 := Lib.hid hq2
            clear ho2 ht2 hq2 hm
            generalize W ++ List.replicate m (0 : UInt8) = L at *
            have iL : (L.length : Int) ≤ 8192 := by have h1 := HM.out; have h2 := HMM.out; have h3 := HWL.out; omega
            by_cases hlt2 : (L.length : Int) < p + D.length
            · go_wp2_with (first
                | ((with_reducible show wpList _ _ _ _ _ wr); refine wpList_buildY rfl _ rfl 0 rfl ?_; intro gb wb hk1 hb1 hg1; go_frame; have CB := Lib.hid hk1; have BB := Lib.hid hb1; clear hk1 hb1 hg1)
                | ((with_reducible show wpList _ _ _ _ _ wb); refine wpList_appY rfl _ _ rfl rfl (OwnY.below HO2.out BB.out) gb 1 rfl 0 CB.out (by omega) (Nat.le_trans SZ7.out (Nat.le_trans HT2.out.size BB.out.size)) ?_; intro v4 wc hk1 hg1 hq1; go_frame; have OC := Lib.hid hk1; have GC := Lib.hid hg1; have QC := Lib.hid hq1; clear hk1 hg1 hq1)
                | fail)
              rw [HPM.out] at OC
              obtain ⟨A4, c4, rfl, -⟩ := OC.out.form
              go_roundw
              case rel => exact ⟨m + 1, by have h1 := HM.out; have h2 := HMM.out; omega, OC.out, (HT2.out.trans (Turn.of_below BB.out _) fun _ _ h => h).trans ((Turn.of_grown GC.out)) (fun q hq h => (HQ2.out q h).resolve_right (by omega)), fun q h => by rcases QC.out with e | e; exact HQ2.out q (e ▸ h); rw [e] at h; cases h; exact .inr (Nat.le_trans HT2.out.size BB.out.size)⟩
              case measure => simp only [lenV, List.length_append, List.length_replicate]; have h1 := HM.out; omega
            · have HL : L = padB W (p + D.length) := HPD.out (by have h1 := HM.out; have h2 := HMM.out; omega)
              have hPL : L.length = max W.length (p + D.length) := by have h1 := HM.out; have h2 := HMM.out; omega
              have HPL := Lib.hid hPL
              have HLP := Lib.hid HL
              clear HL hPL hlt2
              obtain ⟨gz, rfl, hgz⟩ := own_blockY HO2.out (by have h1 := HPL.out; have h2 := HG.out.1; omega)
              have HGZ := Lib.hid hgz
              clear hgz
              have ex : ¬ (L.length : Int) < p + D.length := by have h1 := HPL.out; omega
              have RD0 : ∃ bd od, Ad = some ⟨bd, od, none⟩ ∧ ∀ i (hi : i < D.length), w.cell? ⟨bd, od + i, none⟩ = some (.int .u8 (D[i].toNat : Int)) := by rcases RD.out with h | h; exact absurd HG.out.1 (by rw [h]; decide); exact h
              obtain ⟨bd, od, rfl, hby⟩ := RD0
              have HBY := Lib.hid hby
              clear hby
              go_wp2_with fail
              have TZ0 := Lib.hid (HT2.out.below SZ7.out (fun q h => (HLT.out q h).1))
              go_loopw [13] (fun j wz => ∃ i : Nat, j = .int .i64 i ∧ i ≤ D.length ∧ OwnY wz w9.heap.size (.slice (some ⟨gz, 0, none⟩) L.length cz) (partW L p D i) ∧ Turn w7 wz (fun q => q = gz ∨ (Value.slice A7 W.length c7).ownBlock = some q)) (fun j _ => D.length - (RowKit.intOf j).toNat)
              case atStart => exact ⟨0, rfl, Nat.zero_le _, (partW_zero L p D).symm ▸ HO2.out, HT2.out.mono fun q _ h => .inr h⟩
              case round =>
                obtain ⟨i, rfl, hi, ho3, ht3⟩ := hrel
                have HO3 := Lib.hid ho3
                have HT3 := Lib.hid ht3
                clear ho3 ht3
                have HPLN := Lib.hid (partW_len hi (show p + D.length ≤ L.length by have h1 := HPL.out; omega))
                have BW3 := Lib.hid (show Below w.heap.size w wr from BW7.out.trans (HT3.out.below BW7.out.size (fun q h => Nat.le_trans (Nat.le_trans B09.out.size (Nat.le_refl _)) (by rcases h with rfl | h; exact HGZ.out; exact (HLT.out q h).1))))
                by_cases hi3 : i < D.length
                · have b1 : wr.cell? ⟨bd, od + i, none⟩ = some (.int .u8 (D[i].toNat : Int)) := (BW3.out.cell (lt_of_cell (HBY.out i hi3))).trans (HBY.out i hi3)
                  have HPS := Lib.hid (partW_step hi3 (show p + D.length ≤ L.length by have h1 := HPL.out; omega))
                  have j1 : (p : Int) + i < L.length := by have h1 := HPL.out; omega
                  go_wp2_with (first
                    | ((with_reducible show wpList _ _ _ (⟨none, .store _ _ _, _, _, _, _⟩ :: _) _ wr); refine wpList_setY rfl _ _ rfl HO3.out (p + i) (by have h1 := HPLN.out; omega) rfl D[i] rfl ?_; intro wc hk1 ht1; go_frame; have OC := Lib.hid hk1; have TC := Lib.hid ht1; clear hk1 ht1)
                    | fail)
                  rw [HPS.out] at OC
                  go_roundw
                  case rel => exact ⟨i + 1, by go_num, hi3, OC.out, HT3.out.trans TC.out (fun q hq h => .inl h)⟩
                  case measure => simp [RowKit.intOf]; omega
                · obtain rfl : i = D.length := by omega
                  have EA := Lib.hid (show partW L p D D.length = putB W p D by rw [partW_all, HLP.out]; rfl)
                  have O8 := HO3.out
                  rw [EA.out] at O8
                  have EL := Lib.hid (show L.length = (putB W p D).length by rw [putB_len]; exact HPL.out)
                  have hWL8 : (putB W p D).length ≤ 4096 := by rw [putB_len]; have h1 := HWL.out; have h2 := HG.out.2.2; omega
                  have HWL8 := Lib.hid hWL8
                  clear hWL8
                  rw [EL.out] at O8
                  have HO8 := Lib.hid O8
                  clear O8
                  have hgz1 := Lib.hid (show (Value.slice A7 W.length c7).ownBlock = some gz ∨ w7.heap.size ≤ gz from HQ2.out gz rfl)
                  have hgz2 := Lib.hid (show ∀ q, q < w7.heap.size → q ≠ g3 → (Value.slice A7 W.length c7).ownBlock ≠ some q → ¬ (q = gz ∨ (Value.slice A7 W.length c7).ownBlock = some q) from fun q h1 h2 h3 h4 => by rcases h4 with rfl | h4; rcases hgz1.out with h5 | h5; exact h3 h5; omega; exact h3 h4)
                  have C38 := Lib.hid (C37.out.turn HT3.out (fun h => by have h2 := HG9.out; rcases h with h | h; have h1 := HGZ.out; omega; have h1 := (HLT.out _ h).1; omega))
                  have C68h := Lib.hid (C67h.out.turn HT3.out (fun h => by have h2 := HG6.out; rcases h with h | h; have h1 := HGZ.out; omega; have h1 := (HLT.out _ h).1; omega))
                  have C118 := Lib.hid (C7.out.turn HT3.out (fun h => by have h2 := G11.out; have h5 := C7.out.lt; rcases h with h | h; rcases hgz1.out with h4 | h4; have := (HLT.out _ h4).2; omega; omega; have := (HLT.out _ h).2; omega))
                  have T8 := Lib.hid (show TrAt wr (fun k => k ≠ g3 ∧ (Value.slice (some ⟨gz, 0, none⟩) (putB W p D).length cz).ownBlock ≠ some k ∧ k < wr.heap.size) ds X from (TD7.out.turn HT3.out (fun q h => hgz2.out q h.2.2 h.1 h.2.1)).mono fun q hq h => ⟨h.1, (fun e => by cases e; exact hgz2.out gz h.2.2 h.1 h.2.1 (.inl rfl)), hq⟩)
                  have SZ0 := Lib.hid (Nat.le_trans SZ7.out HT3.out.size)
                  rw [EL.out]
                  clear C37 C67h OV7 HO2 HT2 HQ2 HM HMM HPM HPD HO3 HPLN TZ0 iL ex
                  generalize putB W p D = W8 at *
                  obtain ⟨d, hd1, hd2⟩ := HFP.out.find
                  go_wp2_with (first
                    | ((with_reducible show wpList _ _ _ _ _ wr); refine wpList_loadS rfl 31 _ rfl g11 rfl ds C118.out _ Tryd.underlying31 rfl (by rw [TD.out.len]; exact infoTree) ?_; go_frame)
                    | ((with_reducible show wpList _ _ _ _ _ wr); refine wpList_storeS rfl 31 _ _ rfl g3 rfl ds cs rfl C38.out (by rw [TD.out.len, HTR.out.len]) TD.out.one (by rw [TD.out.len]; exact infoTree) ?_; intro wa hk2 ht2; go_frame; have Ca := Lib.hid hk2; have Ba := Lib.hid (show Below w.heap.size w wa from below_turn BW3.out ht2 BW3.out.size HG3.out); have Ta := Lib.hid (T8.out.turn ht2 (fun k hk => hk.1)); have Oa := Lib.hid (OwnY.turn HO8.out ht2 (fun k hk e => by have h1 := (OwnY.blk HO8.out hk).1; have h2 := HG9.out; omega)); have Ha := Lib.hid (C68h.out.turn ht2 (fun e => H36.out e.symm)); have Sa := Lib.hid (Nat.le_trans SZ0.out ht2.size); clear hk2 ht2)
                    | ((with_reducible show wpList _ _ _ _ _ wa); refine wpList_loadS rfl 31 _ rfl g3 rfl ds Ca.out _ Tryd.underlying31 rfl (by rw [TD.out.len]; exact infoTree) ?_; go_frame)
                    | ((with_reducible show wpList _ _ _ _ _ wa); refine wpList_loadS rfl 39 _ rfl g6 rfl (hdC (2, 2)) Ha.out _ Tryd.underlying39 rfl infoHandle ?_; go_frame)
                    | fail)
                  have hm := HK.out.find X ds (2, 2) _ wa (HT.out.below Ba.out) Ta.out ⟨by decide, by decide⟩ HFP.out.may
                  rw [hd1] at hm
                  dsimp only [Option.getD_some, Option.isSome_some] at hm
                  refine hm.mono ?_
                  clear hm
                  rintro e wb ⟨fs, rfl, hn, hb⟩
                  have NF := Lib.hid hn
                  have Bb := Lib.hid hb
                  obtain ⟨dvf, nvf, ef, hbf, -⟩ := hn
                  rw [hd2] at hbf
                  obtain ⟨Af, cf, rfl, rf, -⟩ := hbf
                  have RF := Lib.hid rf.rd
                  have EF := Lib.hid ef
                  clear hb rf ef hd1 hd2
                  go_wp2_with (first
                    | ((with_reducible show wpList _ _ _ _ _ wb); refine wpList_allocS rfl 34 rfl nodeZ nodeZero ?_; intro g14 wc hk1 hb1 hg1; go_frame; have Cc := Lib.hid hk1; have Bc := Lib.hid hb1; have Gc := Lib.hid hg1; clear hk1 hb1 hg1)
                    | ((with_reducible show wpList _ _ _ _ _ wc); refine wpList_storeS rfl 34 _ _ rfl g14 rfl fs nodeZ rfl Cc.out (by rw [NF.out.len]; rfl) NF.out.one (by rw [NF.out.len]; exact infoNode) ?_; intro wd hk2 ht2; go_frame; have q4 : wd.cell? ⟨g14, 4, none⟩ = some (.slice Af W8.length cf) := hk2.cell 4 (by rw [EF.out]; rfl); have Bd := Lib.hid (show Below wb.heap.size wb wd from below_turn Bc.out ht2 Bc.out.size Gc.out); clear hk2 ht2)
                    | fail)
                  have BX := Lib.hid (below_chain Bb.out Bd.out)
                  have OD := Lib.hid (OwnY.below Oa.out BX.out)
                  have RO : Rd wd (some ⟨gz, 0, none⟩) W8 := by obtain ⟨A9, c9, e9, r9⟩ := OD.out.form; cases e9; exact r9
                  refine (Same_any Af (some ⟨gz, 0, none⟩) W8 W8 cf cz wd (RF.out.below Bd.out) RO).mono ?_
                  rintro e wz ⟨e1, e2⟩
                  rw [show (W8 == W8) = true from by simp] at e1
                  subst e1
                  subst e2
                  clear RO q4
                  go_wp2_with fail
                  go_roundw
                  case rel => exact ⟨k + 1, X, W8, ds, by go_num, hlt, (by have := i40; omega), HFP.out, HWL8.out, OD.out, Ca.out.below BX.out Ca.out.lt, Ha.out.below BX.out Ha.out.lt, (Ta.out.below BX.out).mono (fun k hk hh => ⟨hh.1, hh.2.1, hk⟩), below_chain Ba.out BX.out, Nat.le_trans Sa.out BX.out.size⟩
                  case measure => simp [RowKit.intOf]; omega
        · have HFP := Lib.hid hf
          clear HS hg hf
          have SZ0 := Lib.hid SZ7.out
          obtain ⟨d, hd1, hd2⟩ := HFP.out.find
          go_wp2_with (first
            | ((with_reducible show wpList _ _ _ _ _ w7); refine wpList_loadS rfl 31 _ rfl g11 rfl ds C7.out _ Tryd.underlying31 rfl (by rw [TD.out.len]; exact infoTree) ?_; go_frame)
            | ((with_reducible show wpList _ _ _ _ _ w7); refine wpList_storeS rfl 31 _ _ rfl g3 rfl ds cs rfl C37.out (by rw [TD.out.len, HTR.out.len]) TD.out.one (by rw [TD.out.len]; exact infoTree) ?_; intro wa hk2 ht2; go_frame; have Ca := Lib.hid hk2; have Ba := Lib.hid (show Below w.heap.size w wa from below_turn BW7.out ht2 BW7.out.size HG3.out); have Ta := Lib.hid (TD7.out.turn ht2 (fun k hk => hk.1)); have Oa := Lib.hid (OwnY.turn OV7.out ht2 (fun k hk e => by have h1 := (OwnY.blk OV7.out hk).1; have h2 := HG9.out; omega)); have Ha := Lib.hid (C67h.out.turn ht2 (fun e => H36.out e.symm)); have Sa := Lib.hid (Nat.le_trans SZ0.out ht2.size); clear hk2 ht2)
            | ((with_reducible show wpList _ _ _ _ _ wa); refine wpList_loadS rfl 31 _ rfl g3 rfl ds Ca.out _ Tryd.underlying31 rfl (by rw [TD.out.len]; exact infoTree) ?_; go_frame)
            | ((with_reducible show wpList _ _ _ _ _ wa); refine wpList_loadS rfl 39 _ rfl g6 rfl (hdC (2, 2)) Ha.out _ Tryd.underlying39 rfl infoHandle ?_; go_frame)
            | fail)
          have hm := HK.out.find X ds (2, 2) _ wa (HT.out.below Ba.out) Ta.out ⟨by decide, by decide⟩ HFP.out.may
          rw [hd1] at hm
          dsimp only [Option.getD_some, Option.isSome_some] at hm
          refine hm.mono ?_
          clear hm
          rintro e wb ⟨fs, rfl, hn, hb⟩
          have NF := Lib.hid hn
          have Bb := Lib.hid hb
          obtain ⟨dvf, nvf, ef, hbf, -⟩ := hn
          rw [hd2] at hbf
          obtain ⟨Af, cf, rfl, rf, -⟩ := hbf
          have RF := Lib.hid rf.rd
          have EF := Lib.hid ef
          clear hb rf ef hd1 hd2
          go_wp2_with (first
            | ((with_reducible show wpList _ _ _ _ _ wb); refine wpList_allocS rfl 34 rfl nodeZ nodeZero ?_; intro g14 wc hk1 hb1 hg1; go_frame; have Cc := Lib.hid hk1; have Bc := Lib.hid hb1; have Gc := Lib.hid hg1; clear hk1 hb1 hg1)
            | ((with_reducible show wpList _ _ _ _ _ wc); refine wpList_storeS rfl 34 _ _ rfl g14 rfl fs nodeZ rfl Cc.out (by rw [NF.out.len]; rfl) NF.out.one (by rw [NF.out.len]; exact infoNode) ?_; intro wd hk2 ht2; go_frame; have q4 : wd.cell? ⟨g14, 4, none⟩ = some (.slice Af W.length cf) := hk2.cell 4 (by rw [EF.out]; rfl); have Bd := Lib.hid (show Below wb.heap.size wb wd from below_turn Bc.out ht2 Bc.out.size Gc.out); clear hk2 ht2)
            | fail)
          have BX := Lib.hid (below_chain Bb.out Bd.out)
          have OD := Lib.hid (OwnY.below Oa.out BX.out)
          have RO : Rd wd (A7) W := by obtain ⟨A9, c9, e9, r9⟩ := OD.out.form; cases e9; exact r9
          refine (Same_any Af (A7) W W cf c7 wd (RF.out.below Bd.out) RO).mono ?_
          rintro e wz ⟨e1, e2⟩
          rw [show (W == W) = true from by simp] at e1
          subst e1
          subst e2
          clear RO q4
          go_wp2_with fail
          go_roundw
          case rel => exact ⟨k + 1, X, W, ds, by go_num, hlt, (by have := i40; omega), HFP.out, HWL.out, OD.out, Ca.out.below BX.out Ca.out.lt, Ha.out.below BX.out Ha.out.lt, (Ta.out.below BX.out).mono (fun k hk hh => ⟨hh.1, hh.2.1, hk⟩), below_chain Ba.out BX.out, Nat.le_trans Sa.out BX.out.size⟩
          case measure => simp [RowKit.intOf]; omega
      · have i40 : ¬ (k : Int) < 40 := by omega
        go_wp2_with fail
        refine (lives13_v HK.out wr (HT.out.below HB.out)).mono ?_
        rintro e wz ⟨rfl, hb⟩
        have BE := Lib.hid (below_chain HB.out hb)
        clear hb
        go_wp2_with fail
        go_ret
        exact ⟨rfl, BE.out⟩
    · go_wp2_with fail
      refine (lives13_v HK.out wr (HT.out.below HB.out)).mono ?_
      rintro e wz ⟨rfl, hb⟩
      have BE := Lib.hid (below_chain HB.out hb)
      clear hb
      go_wp2_with fail
      go_ret
      exact ⟨rfl, BE.out⟩

end Go.Proofs.YtenpmbfncnepgaaDoor
