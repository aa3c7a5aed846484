/- Put: a block that is sealed. -/
import Derived.Test.YtlhbipommhljiaaSealCopy
namespace Go.Proofs.Ytlhbipommhljiaa
open Go.RowKit Go.Shelf
set_option linter.unusedVariables false
set_option linter.unusedSimpArgs false

theorem Put_long (n : Int) (b : List UInt8) (A : Option Addr) (c : Nat) (w : World) (h : 44 < b.length) (hl : b.length ≤ 281474976710656) : Calls Try.prog 7 #[.int .u32 n, .slice A b.length c] w fun e w' =>
    e = .returned (.tuple #[bv zb, .int .i64 3]) ∧ Below w.heap.size w w' := by
  have h' : (44 : Int) < (b.length : Int) := by omega
  clear h
  go_enter Try.func7, Try.ntmps7
  go_wp2_with (first
    | (refine wpList_alloc_blk rfl rfl ?_; intro g4 w1 hk hb hg; go_frame; have K4 := Lib.hid hk; have B4 := Lib.hid hb; have G4 := Lib.hid hg; clear hk hb hg)
    | (refine wpList_build_zero rfl rfl ?_; go_frame)
    | (refine wpList_fill_blk rfl (.tmp 4) _ rfl g4 rfl zb rfl zb_len K4.out ?_; intro w2 hk2 hr2; go_frame))
  refine bodyPost_ret (v := .tuple #[bv zb, .int .i64 3]) ?_ rfl ⟨rfl, keep_own B4.out hr2 G4.out⟩
  exact end_blk (p := 4) (u := 5) rfl _ _ g4 0 _ _ rfl rfl (At.whole hk2) zb_len
theorem Put_zero (b : List UInt8) (A : Option Addr) (c : Nat) (w : World) (h : b.length ≤ 44) : Calls Try.prog 7 #[.int .u32 0, .slice A b.length c] w fun e w' =>
    e = .returned (.tuple #[bv zb, .int .i64 2]) ∧ Below w.heap.size w w' := by
  have h' : decide ((44 : Int) < (b.length : Int)) = false := by simp; omega
  clear h
  go_enter Try.func7, Try.ntmps7
  go_wp2_with (first
    | (refine wpList_alloc_blk rfl rfl ?_; intro g4 w1 hk hb hg; go_frame; have K4 := Lib.hid hk; have B4 := Lib.hid hb; have G4 := Lib.hid hg; clear hk hb hg)
    | (refine wpList_build_zero rfl rfl ?_; go_frame)
    | (refine wpList_fill_blk rfl (.tmp 4) _ rfl g4 rfl zb rfl zb_len K4.out ?_; intro w2 hk2 hr2; go_frame))
  refine bodyPost_ret (v := .tuple #[bv zb, .int .i64 2]) ?_ rfl ⟨rfl, keep_own B4.out hr2 G4.out⟩
  exact end_blk (p := 4) (u := 5) rfl _ _ g4 0 _ _ rfl rfl (At.whole hk2) zb_len
theorem rd_drop {w : World} {g f : Nat} {l : List UInt8} (h : Rd w (some ⟨g, f, none⟩) l) (k : Nat) : Rd w (some ⟨g, f + k, none⟩) (l.drop k) := by
  rcases h with rfl | ⟨b, off, e, hc⟩
  · exact .inl (by simp)
  · cases e
    refine .inr ⟨g, f + k, rfl, fun j hj => ?_⟩
    have hj' : k + j < l.length := by simp at hj; omega
    have := hc (k + j) hj'
    rw [← Nat.add_assoc] at this
    rw [this]
    simp
/-- what stands at a round's head -/
def PutL (wB : World) (g9 : Nat) (h all : List UInt8) (k : Nat) (wr : World) : Prop := Cs wr g9 25 (cellsOf (putTo h all k)).toArray ∧ Below wB.heap.size wB wr
theorem putL_next {wB wr w1 w2 w3 : World} {g9 : Nat} {h all : List UInt8} {k : Nat} (hB : wB.heap.size ≤ g9) (hI : Below wB.heap.size wB wr) (hb : Below wr.heap.size wr w1) (h1 : w1.grownBy w2 (some g9)) (h2 : w2.grownBy w3 (some g9))
    (hc : Cs w3 g9 25 (cellsOf (layAt (layAt (putTo h all k) (16 * k) h) (16 * k + 4) ((all.drop (12 * k)).take 12))).toArray) : PutL wB g9 h all (k + 1) w3 :=
  ⟨by rw [putTo_succ]; exact hc, keep_own (keep_own (below_chain hI hb) h1 hB) h2 hB⟩
set_option maxHeartbeats 2000000 in
theorem Put_main (n : Int) (b : List UInt8) (A : Option Addr) (c : Nat) (w : World) (hb : b.length ≤ 44) (h0 : 0 < n) (h1 : n < 4294967296) (hr : Rd w A b) : Calls Try.prog 7 #[.int .u32 n, .slice A b.length c] w fun e w' =>
    e = .returned (.tuple #[bv (putN n b), .int .i64 0]) ∧ Below w.heap.size w w' := by
  have hmix : Try.prog.follows .mixedOrders = true := by kernel_rfl
  have h' : decide ((44 : Int) < (b.length : Int)) = false := by simp; omega
  have h0' : (n == 0) = false := by simp; omega
  have hbs := bytesOf_any n (by omega) h1
  have HBL := Lib.hid hb
  have HR := Lib.hid hr
  have HN0 := Lib.hid h0
  have HN1 := Lib.hid h1
  have hsum := fun W g h => sumOf_any n (by omega) h1 (fullOf b) (some ⟨g, 0, none⟩) 44 (by rw [fullOf_len b hb]; decide) W h
  rw [fullOf_len b hb] at hsum
  have hbs2 := bytesOf_any (sumN n (fullOf b)) (by omega) (by have := sumN_lt n (fullOf b); omega)
  have HS : Hid (allOf n b = fullOf b ++ beL (sumN n (fullOf b)) 4) := Lib.hid rfl
  generalize hall : allOf n b = all at *
  have HALL := Lib.hid hall
  clear hall
  generalize hsn : sumN n (fullOf b) = sn at *
  clear hsn h0 h1 hr hb
  go_enter Try.func7, Try.ntmps7
  go_wp2_with (first
    | (refine wpList_alloc_blk rfl rfl ?_; intro g4 w1 hk hb hg; go_frame; have K4 := Lib.hid hk; have B4 := Lib.hid hb; have G4 := Lib.hid hg; clear hk hb hg)
    | (refine wpList_alloc_44 rfl rfl ?_; intro g6 w2 hk hb hg; go_frame; have K6 := Lib.hid hk; have B6 := Lib.hid hb; have G6 := Lib.hid hg; clear hk hb hg)
    | (refine wpList_copy_rd rfl (.tmp 20) (.tmp 21) rfl g6 0 44 44 b.length c A 40 z44 b rfl rfl rfl (HR.out.below (below_chain B4.out B6.out)) K6.out (by rw [z44_len]; omega) b.length (by have := HBL.out; omega) ?_; intro w3 hk hr; rw [full_lay b HBL.out] at hk; go_frame; have K6b := Lib.hid hk; have B6b := Lib.hid (keep_own B6.out hr G6.out); clear hk hr))
  --GEN
  refine (hbs _).mono ?_
  clear hbs
  rintro e w4 ⟨g7, rfl, hr7, hb7⟩
  have R7 := Lib.hid hr7
  have B7 := Lib.hid (below_chain B6b.out hb7)
  have K6c := Lib.hid (K6b.out.below hb7 K6b.out.lt)
  clear hr7 hb7 K6 K6b B6
  go_wp2_with fail
  have hdr := (Below.refl w4.heap.size w4).drew
  refine wp_region_held (S := fun w9 => Below w4.heap.size w4 w9) hmix ?_
  change wpAnyH _ _ _ _ _ _ _ _ (World.drew w4)
  have S0 := Lib.hid hdr
  clear hdr
  refine wpAnyH_take (i := 0) (v := .slice (some ⟨g6, 0, none⟩) 44 44) rfl (by kernel_rfl) (by kernel_rfl) (by kernel_rfl) (fun _ _ _ h => h) (Or.inl ⟨by rfl, by intro w9 hS; go_simp⟩) S0.out ?_
  try simp only [List.getElem_toArray, List.getElem_cons_succ, List.getElem_cons_zero, Act.put, List.setIfInBounds_toArray, List.set_cons_succ, List.set_cons_zero]
  refine wpAnyH_take (i := 1) (v := .int .u32 n) rfl (by kernel_rfl) (by kernel_rfl) (by kernel_rfl) (fun _ _ _ h => h) (Or.inl ⟨by rfl, by intro w9 hS; go_simp⟩) S0.out ?_
  try simp only [List.getElem_toArray, List.getElem_cons_succ, List.getElem_cons_zero, Act.put, List.setIfInBounds_toArray, List.set_cons_succ, List.set_cons_zero]
  refine wpAnyH_take (i := 2) (v := .slice (some ⟨g6, 0, none⟩) 44 44) rfl (by kernel_rfl) (by kernel_rfl) (by kernel_rfl) (fun _ _ _ h => h) (Or.inl ⟨by rfl, by intro w9 hS; go_simp⟩) S0.out ?_
  try simp only [List.getElem_toArray, List.getElem_cons_succ, List.getElem_cons_zero, Act.put, List.setIfInBounds_toArray, List.set_cons_succ, List.set_cons_zero]
  have hsum0 := hsum _ g6 (by have := rd_part (K6c.out.below S0.out K6c.out.lt) 0 44; rw [List.drop_zero, List.take_of_length_le (by rw [fullOf_len b HBL.out]; exact Nat.le_refl _)] at this; exact this)
  clear hsum
  generalize World.drew w4 = w5 at *
  refine wpAnyH_ready (rs := [3]) (by kernel_rfl) (by simp) ?_
  refine AllReadyH.cons rfl (fun K hK => ?_) AllReadyH.nil
  dsimp only [List.getElem_toArray, List.getElem_cons_succ, List.getElem_cons_zero]
  go_simp
  refine hsum0.mono ?_
  clear hsum0
  rintro e w6 ⟨rfl, hb6⟩
  have S1 := Lib.hid (S0.out.trans (hb6.mono S0.out.size))
  clear hb6
  refine hK.out _ _ S1.out (fun _ => ?_)
  clear hK K
  try simp only [List.getElem_toArray, List.getElem_cons_succ, List.getElem_cons_zero, Act.put, List.setIfInBounds_toArray, List.set_cons_succ, List.set_cons_zero]
  refine wpAnyH_ready (rs := [4]) (by kernel_rfl) (by simp) ?_
  refine AllReadyH.cons rfl (fun K hK => ?_) AllReadyH.nil
  dsimp only [List.getElem_toArray, List.getElem_cons_succ, List.getElem_cons_zero]
  go_simp
  refine (hbs2 _).mono ?_
  clear hbs2
  rintro e w7 ⟨gs, rfl, hrs, hb7⟩
  have S2 := Lib.hid (S1.out.trans (hb7.mono S1.out.size))
  have RS := Lib.hid hrs
  clear hb7 hrs
  refine hK.out _ _ S2.out (fun _ => ?_)
  clear hK K
  try simp only [List.getElem_toArray, List.getElem_cons_succ, List.getElem_cons_zero, Act.put, List.setIfInBounds_toArray, List.set_cons_succ, List.set_cons_zero]
  refine wpAnyH_ready (rs := [5]) (by kernel_rfl) (by simp) ?_
  refine AllReadyH.cons rfl (fun K hK => ?_) AllReadyH.nil
  dsimp only [List.getElem_toArray, List.getElem_cons_succ, List.getElem_cons_zero]
  go_simp
  have c8 := Cs.new w7 23 #[.slice (some ⟨g6, 0, none⟩) 44 44, .slice (some ⟨gs, 0, none⟩) 4 4]
  have b8 := (Below.refl w7.heap.size w7).alloc (Nat.le_refl _) (.cells #[.slice (some ⟨g6, 0, none⟩) 44 44, .slice (some ⟨gs, 0, none⟩) 4 4] 23)
  have C8 := Lib.hid c8
  have B8 := Lib.hid b8
  clear c8 b8
  generalize w7.alloc (.cells #[.slice (some ⟨g6, 0, none⟩) 44 44, .slice (some ⟨gs, 0, none⟩) 4 4] 23) = w8 at *
  have S3 := Lib.hid (S2.out.trans (B8.out.mono S2.out.size))
  refine hK.out _ _ S3.out (fun _ => ?_)
  clear hK K
  try simp only [List.getElem_toArray, List.getElem_cons_succ, List.getElem_cons_zero, Act.put, List.setIfInBounds_toArray, List.set_cons_succ, List.set_cons_zero]
  refine wpAnyH_ready (rs := [6]) (by kernel_rfl) (by simp) ?_
  refine AllReadyH.cons rfl (fun K hK => ?_) AllReadyH.nil
  dsimp only [List.getElem_toArray, List.getElem_cons_succ, List.getElem_cons_zero]
  go_simp
  have hK6 := K6c.out.below (Below.trans ((Below.refl w4.heap.size w4)) S3.out) K6c.out.lt
  have hcon := Concat_any w7.heap.size (fullOf b) (beL sn 4) g6 gs 44 4 (fullOf_len b HBL.out) (beL_length _ _) w8 (C8.out.cell 0 rfl) (C8.out.cell 1 rfl) (by have := rd_part hK6 0 44; rw [List.drop_zero, List.take_of_length_le (by rw [fullOf_len b HBL.out]; exact Nat.le_refl _)] at this; exact this) (RS.out.below B8.out)
  refine hcon.mono ?_
  clear hcon hK6
  rintro e w9 ⟨v, rfl, hown, hb9⟩
  rw [← HS.out] at hown
  obtain ⟨ag, cap, rfl, hcap, hcm⟩ := own_form hown (by decide)
  have RA := Lib.hid (own_rd hown)
  have S4 := Lib.hid (S3.out.trans (hb9.mono S3.out.size))
  have HCM := Lib.hid hcm
  have HC := Lib.hid hcap
  clear hown hb9 hcm hcap
  refine hK.out _ _ S4.out (fun _ => ?_)
  clear hK K
  try simp only [List.getElem_toArray, List.getElem_cons_succ, List.getElem_cons_zero, Act.put, List.setIfInBounds_toArray, List.set_cons_succ, List.set_cons_zero]
  refine wpAnyH_take (i := 7) (v := .slice (some ⟨ag, 0, none⟩) 48 cap) rfl (by kernel_rfl) (by kernel_rfl) (by kernel_rfl) (fun _ _ _ h => h) (Or.inl ⟨by rfl, by intro w9 hS; go_simp⟩) S4.out ?_
  try simp only [List.getElem_toArray, List.getElem_cons_succ, List.getElem_cons_zero, Act.put, List.setIfInBounds_toArray, List.set_cons_succ, List.set_cons_zero]
  refine wpAnyH_done (by kernel_rfl) ?_ _
  have K4b := Lib.hid (K4.out.below (below_chain B7.out S4.out) K4.out.lt)
  have R7b := Lib.hid (R7.out.below S4.out)
  have BB := Lib.hid (below_chain (below_chain B4.out B7.out) S4.out)
  have hall48 : all.length = 48 := by rw [← HALL.out]; exact allOf_len n b HBL.out
  have HA48 := Lib.hid hall48
  clear hall48
  have hput : putN n b = putTo (beL n 4) all 4 := by unfold putN; rw [HALL.out]
  have HPUT := Lib.hid hput
  clear hput
  have hhl := Lib.hid (beL_length n 4)
  generalize beL n 4 = h at *
  have hlen := Lib.hid (putTo_len h all hhl.out HA48.out)
  clear K4 R7 B7 S4 S3 S2 S1 S0 C8 B8 RS K6c B6b HR HBL HS HALL HN0 HN1 G6 h0'
  go_wp2_with (first | (refine wpList_alloc_blk rfl rfl ?_; intro g9 w10 hk hb hg; go_frame; have K9 := Lib.hid hk; have B9 := Lib.hid hb; have G9 := Lib.hid hg; clear hk hb hg))
  go_loopw [8, 32] (fun lv c wr => ∃ (k : Nat) (A9 : Option Addr), k ≤ 4 ∧ c = .int .i64 k ∧ lv = .slice A9 (48 - 12 * k) (cap - 12 * k) ∧ Hid (k < 4 → A9 = some ⟨ag, 12 * k, none⟩) ∧ PutL w9 g9 h all k wr) (fun _ c _ => 4 - (intOf c).toNat)
  case atStart => exact ⟨0, _, by decide, rfl, rfl, Lib.hid fun _ => rfl, K9.out, B9.out⟩
  case round =>
    obtain ⟨k, A9, hk, rfl, rfl, HA9, hI⟩ := hrel
    have HI := Lib.hid hI
    clear hI K9 B9
    by_cases hk4 : k < 4
    · have hlt : (k : Int) < 4 := by omega
      obtain rfl := HA9.out hk4
      clear HA9
      have HE4 := Lib.hid (show cap - 12 * k = 12 → ¬ (k + 1 < 4) by have := HC.out; omega)
      have hc := cut_any g9 k hk4 wr
      have HL := Lib.hid hk4
      have HP := Lib.hid (hlen.out k (by omega))
      have HF := Lib.hid (show 16 * k + 16 ≤ 64 by omega)
      have hlo : 12 ≤ 48 - 12 * k := by omega
      have hlc : 48 - 12 * k ≤ cap - 12 * k := by have := HC.out; omega
      have hcp : cap - 12 * k ≤ 9223372036854775807 := by have := HCM.out; unfold maxLen at this; omega
      have HD := Lib.hid (show (all.drop (12 * k)).length = 48 - 12 * k by rw [List.length_drop, HA48.out])
      have RD := Lib.hid (show Rd w9 (some ⟨ag, 12 * k, none⟩) (all.drop (12 * k)) by have := rd_drop RA.out (12 * k); rwa [Nat.zero_add] at this)
      have HE1 := Lib.hid (show 12 * k + 12 = 12 * (k + 1) by omega)
      have HE2 := Lib.hid (show 48 - 12 * k - 12 = 48 - 12 * (k + 1) by omega)
      have HE3 := Lib.hid (show cap - 12 * k - 12 = cap - 12 * (k + 1) by omega)
      have hnx : Hid (∀ w1 w2 w3, Below wr.heap.size wr w1 → w1.grownBy w2 (some g9) → w2.grownBy w3 (some g9) → Cs w3 g9 25 (cellsOf (layAt (layAt (putTo h all k) (16 * k) h) (16 * k + 4) ((all.drop (12 * k)).take 12))).toArray → PutL w9 g9 h all (k + 1) w3) := Lib.hid fun w1 w2 w3 a b c d => putL_next G9.out HI.out.2 a b c d
      generalize hlo2 : 12 * k = lo at *
      generalize hf : 16 * k = f at *
      generalize 48 - lo = ln at *
      generalize hcc : cap - lo = cp at *
      generalize hd : all.drop lo = dl at *
      clear hd hf hlo2 hcc hk4
      generalize hpt : putTo h all k = pt at *
      have HI1 := Lib.hid (show Cs wr g9 25 (cellsOf pt).toArray by rw [← hpt]; exact HI.out.1)
      have HI2 := Lib.hid HI.out.2
      clear hpt HI
      go_wp2_with fail
      refine hc.mono ?_
      clear hc
      rintro e w11 ⟨rfl, hb11⟩
      have B11 := Lib.hid hb11
      have K11 := Lib.hid (HI1.out.below hb11 HI1.out.lt)
      have BW := Lib.hid (below_chain HI2.out hb11)
      clear hb11 HI1 HI2
      go_wp2_with (first
        | (refine wpList_copy_rd rfl (.tmp 40) (.tmp 41) rfl g9 f 4 4 4 4 (some ⟨g7, 0, none⟩) 25 pt h rfl rfl hhl.out (R7b.out.below BW.out) K11.out (by rw [HP.out]; have := HF.out; omega) 4 rfl ?_; intro w12 hk12 hr12; rw [List.take_of_length_le (by rw [hhl.out]; exact Nat.le_refl _)] at hk12; go_frame; have K12 := Lib.hid hk12; have R12 := Lib.hid hr12; have BW2 := Lib.hid (keep_own BW.out hr12 G9.out); clear hk12 hr12)
        | (refine wpList_copy_rd rfl (.tmp 44) (.tmp 45) rfl g9 (f + 4) 12 12 ln cp (some ⟨ag, lo, none⟩) 25 _ dl rfl rfl HD.out (RD.out.below BW2.out) K12.out (by rw [layAt_len _ _ _ (by rw [HP.out, hhl.out]; have := HF.out; omega), HP.out]; have := HF.out; omega) 12 (by omega) ?_; intro w13 hk13 hr13; go_frame; have HN := Lib.hid (hnx.out _ _ _ B11.out R12.out hr13 hk13); clear hk13 hr13))
      go_roundw
      case rel => exact ⟨k + 1, _, by have := HL.out; omega, rfl, by rw [HE2.out, HE3.out], Lib.hid fun h5 => by rw [if_neg fun e => HE4.out e h5, HE1.out], HN.out⟩
      case measure => simp [intOf]; have := HL.out; omega
    · obtain rfl : k = 4 := by omega
      rw [show ((4 : Nat) : Int) = 4 from rfl]
      have HK := Lib.hid HI.out.1
      have HP4 := Lib.hid (hlen.out 4 (by decide))
      have K4c := Lib.hid (K4b.out.below HI.out.2 K4b.out.lt)
      have BE := Lib.hid (below_chain BB.out HI.out.2)
      have G4c := G4.out
      rw [← HPUT.out] at HK HP4
      clear HPUT HI hlen R7b RA HCM HA9 HC
      go_wp2_with (first
        | (refine wpList_load_blk rfl _ rfl g9 0 rfl (putN n b) HP4.out (At.whole HK.out) ?_; go_frame)
        | (refine wpList_fill_blk rfl _ _ rfl g4 rfl (putN n b) rfl HP4.out K4c.out ?_; intro w14 hk14 hr14; go_frame))
      refine bodyPost_ret (v := .tuple #[bv (putN n b), .int .i64 0]) ?_ rfl ⟨rfl, keep_own BE.out hr14 G4c⟩
      exact end_blk (p := 4) (u := 5) rfl _ _ g4 0 _ _ rfl rfl (At.whole hk14) HP4.out

end Go.Proofs.Ytlhbipommhljiaa
