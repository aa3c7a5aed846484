/- SWEPT -/
import Derived.Test.YtfgbpinfplllgaaGreatDoorZStLives
set_option linter.unusedVariables false
set_option linter.unusedSimpArgs false
open Go.Lib (hid)
namespace Go.Proofs.YtfgbpinfplllgaaGreatDoor
open Go.RowKit Go.Shelf
set_option maxRecDepth 100000
theorem lm_none (K7 : K7) {w0 w w1 : World} {sb d : Nat} {rows : List Rw} {now : List (List UInt8)} {u i K : Nat} (h : LvM w0 w sb d rows now u i K) (hg : LaidErr w0) (hb : Below w.heap.size w w1) (hrl : rows.length ≤ 100) (hK : K ≤ 1000) :
    Calls Tryz.prog 18 #[.pointer (some ⟨sb, 0, none⟩), .slice none 0 0] w1 fun e w' => e = .returned (.int .i64 0) ∧ LvM w0 w' sb d rows now u i K := by
  refine (lm_commit K7 (l := []) h hg hb (LsV.nil _ _) ⟨Nat.zero_le _, fun x hx => by cases hx⟩ (Nat.zero_le _) hrl hK).mono ?_
  rintro e w' ⟨j, s, h1, h2, rfl, h3, h4⟩
  have hq : comR j s rows 32 [] = (⟨j, s, rows, 0⟩, false) := by
    unfold comR
    rw [if_neg (by rw [h2.quiet.light]; decide), if_pos (by rfl), if_pos rfl]
  rw [hq] at h3 ⊢
  exact ⟨rfl, _, _, h3, h2, h4⟩
theorem st_small1 (k : Key) (v : List UInt8) (h : k.length ≤ 100) : SmallC [(k, v, false)] := ⟨by simp, fun x hx => by simp at hx; subst hx; simp; omega⟩
theorem may_AB : mayP (rAB 1200) = true := by
  rw [may_iff]
  exact ⟨fun x hx => by
      simp [rAB] at hx
      rcases hx with rfl | rfl
      · exact ⟨by simp, by simp, by simp⟩
      · exact ⟨by simp, by simp, by simp [zs_len]⟩, by simp [rAB]; decide⟩
set_option maxHeartbeats 8000000 in
theorem livesS_any (K7 : K7) (w : World) (hg : LaidErr w) : Calls Tryz.prog 23 #[] w fun e W' => e = .returned (.bool true) ∧ Below w.heap.size w W' := by
  have HK := hid K7
  have HG := hid hg
  clear K7 hg
  go_enter Tryz.func23, Tryz.ntmps23
  go_wp2_with fail
  refine (New_v 64 w (by decide) (by decide)).mono ?_
  rintro e w1 ⟨d, rfl, hd, hb1⟩
  have M1 := hid (lm_make HG.out hb1 (show DiskV w1 d (fresh (2 * 32)) (w.heap.size ≤ ·) from hd))
  clear hd hb1
  go_wp2_with fail
  refine M1.out.mono ?_
  rintro e w2 ⟨sb, rfl, h⟩
  have L2 := hid h
  clear h M1
  go_wp2_with fail
  refine (lm_room L2.out).mono ?_
  rintro e w3 ⟨rfl, h⟩
  have L3 := hid h
  clear h L2
  go_wp2_with fail
  refine (lm_none HK.out L3.out HG.out (Below.refl _ _) (by decide) (by decide)).mono ?_
  rintro e w4 ⟨rfl, h⟩
  have L4 := hid h
  clear h L3
  go_wp2_with fail
  have bA1 := (Below.refl w4.heap.size w4).alloc (Nat.le_refl _) (.cells #[.int .u8 7] 5)
  have kA1 : Cs (w4.alloc (.cells #[.int .u8 7] 5)) w4.heap.size 5 (cellsOf [7]).toArray := Cs.new w4 5 #[.int .u8 7]
  have zA1 : (w4.alloc (.cells #[.int .u8 7] 5)).heap.size = w4.heap.size + 1 := by simp
  generalize w4.alloc (.cells #[.int .u8 7] 5) = wa at *
  have bA2 := (Below.refl wa.heap.size wa).alloc (Nat.le_refl _) (.cells #[.string ⟨#[97]⟩, .slice (some ⟨w4.heap.size, 0, none⟩) 1 1, .bool false] 73)
  have kA2 := Cs.new wa 73 #[.string ⟨#[97]⟩, .slice (some ⟨w4.heap.size, 0, none⟩) 1 1, .bool false]
  have kA1 := kA1.below bA2 kA1.lt
  rw [zA1] at kA2
  generalize wa.alloc (.cells #[.string ⟨#[97]⟩, .slice (some ⟨w4.heap.size, 0, none⟩) 1 1, .bool false] 73) = wb at *
  have hA := lm_app HK.out L4.out HG.out (below_chain bA1 bA2) (one_chg (k := [97]) (v := [7]) (c := 1) kA1 kA2 (by decide) (Nat.le_refl _) (by decide)) (st_small1 _ _ (by decide)) (by decide) (by decide) (by decide) mayA (by decide) lenA (m := 1) (by decide) (by decide) (by decide) (by decide)
  rw [show applyP [] [([97], [7], false)] = rA from applyA] at hA
  have HA := hid hA
  clear bA1 kA1 zA1 bA2 kA2 hA
  refine HA.out.mono ?_
  rintro e w5 ⟨rfl, h⟩
  have L5 := hid h
  clear h L4 HA
  go_wp2_with fail
  refine (lm_room L5.out).mono ?_
  rintro e w6 ⟨rfl, h⟩
  have L6 := hid h
  clear h L5
  go_wp2_with fail
  have s1 := hid (some_v [98] 1400 (by decide) w6)
  refine s1.out.mono ?_
  rintro e w7 ⟨g7, rfl, hl7, hb7⟩
  have HB := hid (lm_full HK.out L6.out HG.out hb7 hl7 (st_small1 _ _ (by decide)) (by decide) (by decide) (by decide) (mayB (n := 1400) (by decide)) (by decide) (lenB (n := 1400) (by decide)) (m := 34) (by decide) (by decide) (by decide) (by decide) (show (putFrom [] (betweenP [] (applyP rA (lB 1400)))).length = 1411 by rw [applyB, lenAB (by decide)]) (m2 := 34) (by decide) (by decide) (by decide))
  clear hl7 hb7 s1
  go_wp2_with fail
  refine HB.out.mono ?_
  rintro e w8 ⟨rfl, h⟩
  have L8 := hid h
  clear h L6 HB
  go_wp2_with fail
  have hR0 : Calls Tryz.prog 30 #[.pointer (some ⟨sb, 0, none⟩)] w8 fun e w' => ∃ A c, e = .returned (.slice A 1 c) ∧ LsV rowN w' (w8.heap.size ≤ ·) (.slice A 1 c) rA ∧ LvM w w' sb d rA ([[]] ++ [putFrom [] [([97], [7], false)]]) (1 + 1) (0 + 1) (5 + 1 + 1) := lm_rows HK.out L8.out (by decide)
  have hR := hid hR0
  clear hR0
  refine hR.out.mono ?_
  rintro e w9 ⟨A9, c9, rfl, hl9, h⟩
  have L9 := hid h
  clear h L8 hR
  obtain ⟨-, hx9, hc91, hc92, -⟩ := hl9.at
  obtain ⟨b9, f9, cs9, rfl, ⟨v9, rfl, hv9⟩, hat9⟩ := hx9.get 0 (by decide)
  obtain ⟨Av, cv, rfl, hrv, -⟩ := hv9.1
  have c91 : w9.cell? ⟨b9, f9 + 1, none⟩ = some (.slice Av 1 cv) := hat9 1 _ rfl
  have RV := hid (show Rd w9 Av [7] from hrv.rd)
  clear hl9 hx9 hc91 hc92 hv9 hrv hat9
  go_wp2_with fail
  have b7 := (Below.refl w9.heap.size w9).alloc (Nat.le_refl _) (.cells #[.int .u8 7] 5)
  have k7 : Cs (w9.alloc (.cells #[.int .u8 7] 5)) w9.heap.size 5 (cellsOf [7]).toArray := Cs.new w9 5 #[.int .u8 7]
  have LA := hid (L9.out.below b7)
  have r7 : Rd (w9.alloc (.cells #[.int .u8 7] 5)) (some ⟨w9.heap.size, 0, none⟩) [7] := .inr ⟨_, 0, rfl, fun j hj => by
    obtain rfl : j = 0 := by simpa using hj
    exact k7.cell 0 rfl⟩
  have rv7 : Rd (w9.alloc (.cells #[.int .u8 7] 5)) Av [7] := RV.out.keep fun p u hu => (b7.cell (lt_of_cell hu)).trans hu
  have hS := hid (Same_any Av (some ⟨w9.heap.size, 0, none⟩) [7] [7] cv 1 _ rv7 r7)
  clear b7 k7 r7 rv7 L9
  generalize w9.alloc (.cells #[.int .u8 7] 5) = wc at *
  refine hS.out.mono ?_
  rintro e _ ⟨rfl, rfl⟩
  rw [show (([7] : List UInt8) == [7]) = true from rfl]
  clear hS
  go_wp2_with fail
  have s2 := hid (some_v [98] 1200 (by decide) wc)
  refine s2.out.mono ?_
  rintro e wd ⟨gd, rfl, hld, hbd⟩
  have hC := lm_app HK.out LA.out HG.out hbd hld (st_small1 _ _ (by decide)) (by decide) (by decide) (by decide) (mayB (n := 1200) (by decide)) (by decide) (lenB (n := 1200) (by decide)) (m := 29) (by decide) (by decide) (by decide) (by decide)
  rw [show applyP rA [([98], zs 1200, false)] = rAB 1200 from applyB 1200] at hC
  have HC := hid hC
  clear hld hbd s2 hC
  go_wp2_with fail
  refine HC.out.mono ?_
  rintro e we ⟨rfl, h⟩
  have LE := hid h
  clear h LA HC
  go_wp2_with fail
  have s3 := hid (some_v [98] 1200 (by decide) we)
  refine s3.out.mono ?_
  rintro e wf ⟨gf, rfl, hlf, hbf⟩
  have hD := lm_rep HK.out LE.out HG.out hbf hlf (st_small1 _ _ (by decide)) (by decide) (by show (rAB 1200).length ≤ 100; decide) (by decide) (mayB (n := 1200) (by decide)) (by decide) (lenB (n := 1200) (by decide)) (m := 29) (by decide) (by decide) (by decide) (by decide) (show (putFrom [] (betweenP [] (applyP (rAB 1200) (lB 1200)))).length = 1211 by rw [applyBB, lenAB (by decide)]) (m2 := 29) (by decide) (by decide) (by decide)
  rw [show applyP (rAB 1200) [([98], zs 1200, false)] = rAB 1200 from applyBB 1200 1200] at hD
  have HD := hid hD
  clear hlf hbf s3 hD
  go_wp2_with fail
  refine HD.out.mono ?_
  rintro e wg ⟨rfl, h⟩
  have LG := hid h
  clear h LE HD
  go_wp2_with fail
  refine (lm_room LG.out).mono ?_
  rintro e wh ⟨rfl, h⟩
  have LH := hid h
  clear h LG
  go_wp2_with fail
  have hO := hid (lm_open HK.out LH.out HG.out (by decide) (fun b hb => by rw [List.mem_singleton] at hb; subst hb; rw [lenAB (by decide)]; decide) (fun bs hbs => by
    have hg : decs [putFrom [] (betweenP [] (rAB 1200))] = some [betweenP [] (rAB 1200)] := decs_ok.2 (by simp [get_put (may_between may_nil may_AB)])
    rw [hg] at hbs
    cases hbs
    rw [betwAB]
    decide))
  refine hO.out.mono ?_
  rintro e wi ⟨so, j, s, F, rfl, ho, hbi⟩
  have OI := hid ho
  have BI := hid hbi
  clear ho hbi LH hO
  go_wp2_with fail
  have hR2 : Calls Tryz.prog 30 #[.pointer (some ⟨so, 0, none⟩)] wi fun e w' => ∃ A c, e = .returned (.slice A 2 c) ∧ LsV rowN w' (wi.heap.size ≤ ·) (.slice A 2 c) (rAB 1200) ∧ Below wi.heap.size wi w' := Rows_v HK.out OI.out may_AB (by decide)
  have HR2 := hid hR2
  clear hR2
  refine HR2.out.mono ?_
  rintro e wj ⟨Aj, cj, rfl, -, hbj⟩
  have BJ := hid (BI.out.trans (hbj.mono BI.out.size))
  clear hbj
  go_wp2_with fail
  go_ret
  exact ⟨rfl, BJ.out⟩
end Go.Proofs.YtfgbpinfplllgaaGreatDoor
