/- The document's answer for layer 5: Put, byte by byte. -/
import Derived.Test.YtlhbipommhljiaaSealRefM
namespace Go.Proofs.Ytlhbipommhljiaa
open Go.RowKit Go.Shelf
set_option linter.unusedVariables false
set_option linter.unusedSimpArgs false

theorem mk44 (W : World) : (Instr.makeSlice 23 (.int .i64 44) (.int .i64 44)).run Try.prog W = .ok (.slice (some ⟨W.heap.size, 0, none⟩) 44 44) (W.alloc (.cells (cellsOf z44).toArray 5)) := by
  obtain ⟨i0, hi, hz0, hz1, hz2⟩ := info_parts Try_info5
  have h := run_make (P := Try.prog) W 23 5 i0 (.int .u8 0) Try.underlying23 hi hz0 .i64 .i64 44 44 (by omega) (by omega) (by rw [hz2]; omega) (by omega)
  have e44 : (cellsOf z44).toArray = zeros 44 := by kernel_rfl
  rw [h, hz1, e44]
  rw [show Int.toNat 44 * 1 = 44 from rfl]
  congr 3
  apply Array.ext
  · simp [zeros, size_madeCells]
  · intro j h1 h2
    simp [madeCells, zeros, Value.cells, Nat.mod_one]
theorem putTo_at (h all : List UInt8) (hh : h.length = 4) (ha : all.length = 48) (i : Nat) (hi : i < 64) : (putTo h all 4).getD i 0 = if i % 16 < 4 then h.getD (i % 16) 0 else all.getD (i / 16 * 12 + i % 16 - 4) 0 := by
  obtain ⟨f, rfl⟩ := ex_mk hh
  obtain ⟨g, rfl⟩ := ex_mk ha
  rw [putTo_mk, mk_getD 64 _ i hi]
  unfold laidAt
  split
  · rename_i h4
    rw [mk_getD 4 _ _ h4]
  · rename_i h4
    rw [mk_getD 48 _ _ (by omega)]
theorem getD_get {l : List UInt8} {i : Nat} (hi : i < l.length) : l[i] = l.getD i 0 := by simp [List.getElem?_eq_getElem hi]
theorem Rd.grown {w w' : World} {b off g : Nat} {l : List UInt8} (h : Rd w (some ⟨b, off, none⟩) l) (hg : w.grownBy w' (some g)) (hn : b ≠ g) (hb : b < w.heap.size) : Rd w' (some ⟨b, off, none⟩) l := by
  rcases h with h | ⟨b', off', e, hc⟩
  · exact .inl h
  · cases e
    exact .inr ⟨b, off, rfl, fun j hj => (World.cell?_of_block (w := w) (a := ⟨b, off + j, none⟩) ((Turn.of_grown hg).block b hb (fun e => hn (by injection e with e; exact e.symm)))).trans (hc j hj)⟩
theorem rd_lt {w : World} {b off : Nat} {l : List UInt8} (h : Rd w (some ⟨b, off, none⟩) l) (hl : 0 < l.length) : b < w.heap.size := by
  rcases h with rfl | ⟨b', off', e, hc⟩
  · simp at hl
  · cases e
    exact lt_of_cell (hc 0 hl)
theorem rd_cellD {w : World} {g r : Nat} {l : List UInt8} (h : Rd w (some ⟨g, 0, none⟩) l) (hr : r < l.length) : w.cell? ⟨g, r, none⟩ = some (.int .u8 ((l.getD r 0).toNat : Int)) := by
  obtain ⟨b, off, e, hc⟩ := rd_at h r hr
  cases e
  rw [Nat.zero_add, getD_get hr] at hc
  exact hc
theorem lay64_next {w : World} {g k : Nat} {t : TypeId} {P : List UInt8} (hP : P.length = 64) (hk : k < 64) (h : Cs w g t (cellsOf (layAt zb 0 (P.take k))).toArray) : Cs (w.setCell ⟨g, k, none⟩ (.int .u8 ((P.getD k 0).toNat : Int))) g t (cellsOf (layAt zb 0 (P.take (k + 1)))).toArray := by
  have hk' : k < P.length := by omega
  have := cs_set h k P[k]
  have e := layAt_next zb 0 P k hk' (by rw [hP, zb_len]; decide)
  rw [Nat.zero_add] at e
  rw [e, getD_get hk'] at this
  exact this
theorem lay64_all {w : World} {g : Nat} {t : TypeId} {P : List UInt8} (hP : P.length = 64) (h : Cs w g t (cellsOf (layAt zb 0 P)).toArray) : Cs w g t (cellsOf P).toArray := by
  have e : layAt zb 0 P = P := by
    unfold layAt
    rw [List.take_zero, List.nil_append, List.drop_eq_nil_of_le (by rw [hP, zb_len]; decide), List.append_nil]
  rwa [e] at h
theorem RefPut_long (n : Int) (b : List UInt8) (A : Option Addr) (c : Nat) (w : World) (h : 44 < b.length) (hl : b.length ≤ 281474976710656) : Calls Try.prog 8 #[.int .u32 n, .slice A b.length c] w fun e w' =>
    e = .returned (.tuple #[bv zb, .int .i64 3]) ∧ Below w.heap.size w w' := by
  have h' : (44 : Int) < (b.length : Int) := by omega
  clear h
  go_enter Try.func8, Try.ntmps8
  go_wp2_with (first
    | (refine wpList_alloc_blk rfl rfl ?_; intro g4 w1 hk hb hg; go_frame; have K4 := Lib.hid hk; have B4 := Lib.hid hb; have G4 := Lib.hid hg; clear hk hb hg)
    | (refine wpList_build_zero rfl rfl ?_; go_frame)
    | (refine wpList_fill_blk rfl (.tmp 4) _ rfl g4 rfl zb rfl zb_len K4.out ?_; intro w2 hk2 hr2; go_frame))
  refine bodyPost_ret (v := .tuple #[bv zb, .int .i64 3]) ?_ rfl ⟨rfl, keep_own B4.out hr2 G4.out⟩
  exact end_blk (p := 4) (u := 5) rfl _ _ g4 0 _ _ rfl rfl (At.whole hk2) zb_len
theorem RefPut_zero (b : List UInt8) (A : Option Addr) (c : Nat) (w : World) (h : b.length ≤ 44) : Calls Try.prog 8 #[.int .u32 0, .slice A b.length c] w fun e w' =>
    e = .returned (.tuple #[bv zb, .int .i64 2]) ∧ Below w.heap.size w w' := by
  have h' : decide ((44 : Int) < (b.length : Int)) = false := by simp; omega
  clear h
  go_enter Try.func8, Try.ntmps8
  go_wp2_with (first
    | (refine wpList_alloc_blk rfl rfl ?_; intro g4 w1 hk hb hg; go_frame; have K4 := Lib.hid hk; have B4 := Lib.hid hb; have G4 := Lib.hid hg; clear hk hb hg)
    | (refine wpList_build_zero rfl rfl ?_; go_frame)
    | (refine wpList_fill_blk rfl (.tmp 4) _ rfl g4 rfl zb rfl zb_len K4.out ?_; intro w2 hk2 hr2; go_frame))
  refine bodyPost_ret (v := .tuple #[bv zb, .int .i64 2]) ?_ rfl ⟨rfl, keep_own B4.out hr2 G4.out⟩
  exact end_blk (p := 4) (u := 5) rfl _ _ g4 0 _ _ rfl rfl (At.whole hk2) zb_len
/-- the first loop: the body's bytes go over -/
def FillI (w : World) (g4 g6 : Nat) (b : List UInt8) (i : Nat) (wr : World) : Prop := Cs wr g6 5 (cellsOf (layAt z44 0 (b.take i))).toArray ∧ Cs wr g4 25 (cellsOf zb).toArray ∧ Below w.heap.size w wr
theorem fillI_next {w wr : World} {g4 g6 i : Nat} {b : List UInt8} (h : FillI w g4 g6 b i wr) (hi : i < b.length) (hb : b.length ≤ 44) (hn : g4 ≠ g6) (hg : w.heap.size ≤ g6) : FillI w g4 g6 b (i + 1) (wr.setCell ⟨g6, i, none⟩ (.int .u8 (b[i].toNat : Int))) := by
  obtain ⟨h1, h2, h3⟩ := h
  refine ⟨?_, h2.far hn _, h3.setCell (p := ⟨g6, i, none⟩) hg _⟩
  have := cs_set h1 i b[i]
  have e := layAt_next z44 0 b i hi (by rw [z44_len]; omega)
  rw [Nat.zero_add] at e
  rw [← e]
  exact this
set_option maxRecDepth 100000 in
set_option maxHeartbeats 4000000 in
theorem RefPut_main (n : Int) (b : List UInt8) (A : Option Addr) (c : Nat) (w : World) (hb : b.length ≤ 44) (h0 : 0 < n) (h1 : n < 4294967296) (hr : Rd w A b) : Calls Try.prog 8 #[.int .u32 n, .slice A b.length c] w fun e w' =>
    e = .returned (.tuple #[bv (putN n b), .int .i64 0]) ∧ Below w.heap.size w w' := by
  have h' : decide ((44 : Int) < (b.length : Int)) = false := by simp; omega
  have h0' : (n == 0) = false := by simp; omega
  have hmk := mk44
  have hput := fun W => PutRef_ok n 4 (by decide) (by omega) (by omega) W (by simp [fitsB, lim]; omega)
  have hput2 := fun W => PutRef_ok (sumN n (fullOf b)) 4 (by decide) (by omega) (by have := sumN_lt n (fullOf b); omega) W (by have := sumN_lt n (fullOf b); simp [fitsB, lim]; omega)
  simp only [show ((4 : Nat) : Int) = 4 from rfl] at hput hput2
  have hsum := fun W g h => sumRef_any n (by omega) h1 (fullOf b) (some ⟨g, 0, none⟩) 44 (by rw [fullOf_len b hb]; decide) W h
  rw [fullOf_len b hb] at hsum
  have HBL := Lib.hid hb
  have HR := Lib.hid hr
  have h1' : n ≤ 4294967295 := by omega
  have hsn := sumN_lt n (fullOf b)
  have HS : Hid (allOf n b = fullOf b ++ beL (sumN n (fullOf b)) 4) := Lib.hid rfl
  generalize hall : allOf n b = all at *
  have HALL := Lib.hid hall
  generalize sumN n (fullOf b) = sn at *
  have hsn' : (sn : Int) ≤ 4294967295 := by omega
  clear hall h1 hr hb hsn
  go_enter Try.func8, Try.ntmps8
  go_wp2_with (first
    | (refine wpList_alloc_blk rfl rfl ?_; intro g4 w1 hk hb hg; go_frame; have K4 := Lib.hid hk; have B4 := Lib.hid hb; have G4 := Lib.hid hg; clear hk hb hg))
  have c6 := Cs.new w1 5 (cellsOf z44).toArray
  have b6 := (Below.refl w1.heap.size w1).alloc (Nat.le_refl _) (.cells (cellsOf z44).toArray 5)
  have n46 := Lib.hid (show g4 ≠ w1.heap.size from fun e => by have := K4.out.lt; omega)
  have G6 := Lib.hid (show w.heap.size ≤ w1.heap.size from B4.out.size)
  have F0 := Lib.hid (show FillI w g4 w1.heap.size b 0 (w1.alloc (.cells (cellsOf z44).toArray 5)) from ⟨by rw [List.take_zero, layAt_nil]; exact c6, K4.out.below b6 K4.out.lt, below_chain B4.out b6⟩)
  clear c6 b6 hmk K4 B4
  generalize w1.alloc (.cells (cellsOf z44).toArray 5) = w2 at *
  generalize w1.heap.size = g6 at *
  go_loopw [7] (fun i wr => ∃ k : Nat, k ≤ b.length ∧ i = .int .i64 (k : Int) ∧ FillI w g4 g6 b k wr) (fun i _ => b.length - (intOf i).toNat)
  case atStart => exact ⟨0, Nat.zero_le _, rfl, F0.out⟩
  case round =>
    obtain ⟨k, hk, rfl, hI⟩ := hrel
    have HI := Lib.hid hI
    clear hI F0
    by_cases hlt : k < b.length
    · have hlt' : (k : Int) < (b.length : Int) := by omega
      have hk44 : (k : Int) < 44 := by have := HBL.out; omega
      have hL := Lib.hid hlt
      have HN := Lib.hid (fillI_next HI.out hlt HBL.out n46.out G6.out)
      obtain ⟨bb, bo, rfl, hc⟩ := rd_at (HR.out.below HI.out.2.2) k hlt
      have hll : (layAt z44 0 (b.take k)).length = 44 := by rw [layAt_len _ _ _ (by rw [z44_len]; simp; omega), z44_len]
      have e6 := cs_byte HI.out.1 k (by rw [hll]; have := HBL.out; omega)
      have f6 := HI.out.1.frozen k
      generalize b[k] = bk at *
      generalize (layAt z44 0 (b.take k))[k]'(by rw [hll]; have := HBL.out; omega) = xk at *
      clear hll hlt hk
      go_wp2_with fail
      go_roundw
      case rel => exact ⟨k + 1, by have := hL.out; omega, by go_num, HN.out⟩
      case measure => simp [intOf]; have := hL.out; omega
    · obtain rfl : k = b.length := by omega
      have K6 := Lib.hid (show Cs wr g6 5 (cellsOf (fullOf b)).toArray by have := HI.out.1; rwa [show b.take b.length = b.take 44 by rw [List.take_of_length_le (Nat.le_refl _), List.take_of_length_le HBL.out], full_lay b HBL.out] at this)
      have K4 := Lib.hid HI.out.2.1
      have BW := Lib.hid HI.out.2.2
      clear HI hlt hk
      go_wp2_with fail
      refine (hput _).mono ?_
      clear hput
      rintro e w4 ⟨g8, c8, rfl, hr8, hb8, hg8⟩
      have N86 := Lib.hid (show g8 ≠ g6 by have := K6.out.lt; omega)
      clear hg8
      have R8 := Lib.hid hr8
      have BW4 := Lib.hid (below_chain BW.out hb8)
      have K6b := Lib.hid (K6.out.below hb8 K6.out.lt)
      have K4b := Lib.hid (K4.out.below hb8 K4.out.lt)
      clear hr8 hb8 BW K6 K4
      have hsum0 := hsum _ g6 (by have := rd_part K6b.out 0 44; rw [List.drop_zero, List.take_of_length_le (by rw [fullOf_len b HBL.out]; exact Nat.le_refl _)] at this; exact this)
      clear hsum
      go_wp2_with fail
      refine hsum0.mono ?_
      clear hsum0
      rintro e w5 ⟨rfl, hb5⟩
      have R8b := Lib.hid (R8.out.below hb5)
      have BW5 := Lib.hid (below_chain BW4.out hb5)
      have K6c := Lib.hid (K6b.out.below hb5 K6b.out.lt)
      have K4c := Lib.hid (K4b.out.below hb5 K4b.out.lt)
      clear hb5 R8 BW4 K6b K4b
      go_wp2_with fail
      refine (hput2 _).mono ?_
      clear hput2
      rintro e w6 ⟨g10, c10, rfl, hr10, hb6, -⟩
      have R10 := Lib.hid hr10
      have R8c := Lib.hid (R8b.out.below hb6)
      have BW6 := Lib.hid (below_chain BW5.out hb6)
      have K6d := Lib.hid (K6c.out.below hb6 K6c.out.lt)
      have K4d := Lib.hid (K4c.out.below hb6 K4c.out.lt)
      have OW := Lib.hid (show w6.ownsRow w.heap.size 5 1 (.slice (some ⟨g6, 0, none⟩) 44 44) 44 (cellsOf (fullOf b)) from ⟨by rw [cellsOf_length, fullOf_len b HBL.out], .inr ⟨g6, 44, (cellsOf (fullOf b)).toArray, rfl, G6.out, K6d.out, Nat.le_refl _, by decide, by simp [cellsOf_length, fullOf_len b HBL.out], by rw [List.take_of_length_le (by simp [cellsOf_length, fullOf_len b HBL.out])]⟩⟩)
      clear hr10 hb6 R8b BW5 K6c K4c
      go_wp2_with (first | (refine wpList_alloc_blk rfl rfl ?_; intro g12 w8 hk hb hg; go_frame; have K12 := Lib.hid hk; have B12 := Lib.hid hb; have G12 := Lib.hid hg; clear hk hb hg) | (at_builtin; refine append_rd rfl (.tmp 49) (.tmp 50) rfl w.heap.size _ _ _ rfl OW.out _ (beL sn 4) 4 c10 (beL_length _ _).symm rfl R10.out (by intro h; cases h) (by decide) BW6.out.size ?_; intro v7 w7 hown7 hgr7; rw [← HS.out] at hown7; obtain ⟨ag, cap, rfl, hcap, hcm⟩ := own_form hown7 (by decide); have RA := Lib.hid (own_rd hown7); have GR := Lib.hid hgr7; have hcap' : 48 ≤ cap := hcap; have HCM := Lib.hid hcm; clear hown7 hgr7 hcm hcap))
      have K4e := Lib.hid (K4d.out.turn (Turn.of_grown GR.out) (fun e => n46.out (by injection e with e; exact e.symm)))
      have R8d := Lib.hid (R8c.out.grown GR.out N86.out (rd_lt R8c.out (by rw [beL_length]; decide)))
      have BW7 := Lib.hid (BW6.out.grown GR.out BW6.out.size (own_base OW.out))
      clear OW GR K4d R8c BW6 R10 K6d n46 N86 G6
      have hcap2 : cap ≤ 9223372036854775807 := by have := HCM.out; unfold maxLen at this; exact this
      have hall48 : all.length = 48 := by rw [← HALL.out]; exact allOf_len n b HBL.out
      have HPT := Lib.hid (show putN n b = putTo (beL n 4) all 4 by unfold putN; rw [HALL.out])
      have HPA := Lib.hid (putTo_at (beL n 4) all (beL_length _ _) hall48)
      have HPL := Lib.hid (putTo_len (beL n 4) all (beL_length _ _) hall48 4 (by decide))
      have HAL := Lib.hid hall48
      have HHL := Lib.hid (beL_length n 4)
      generalize beL n 4 = h at *
      generalize putTo h all 4 = P at *
      clear hall48 HALL HS HBL HR HCM hsn' h1' h0'
      go_loopw [13] (fun i wr => ∃ k : Nat, k ≤ 64 ∧ i = .int .i64 (k : Int) ∧ Cs wr g12 25 (cellsOf (layAt zb 0 (P.take k))).toArray ∧ Below w7.heap.size w7 wr) (fun i _ => 64 - (intOf i).toNat)
      case atStart => exact ⟨0, by decide, rfl, by rw [List.take_zero, layAt_nil]; exact K12.out, B12.out⟩
      case round =>
        obtain ⟨k, hk, rfl, hK, hB⟩ := hrel
        have HK := Lib.hid hK
        have HB := Lib.hid hB
        clear hK hB K12
        by_cases hlt : k < 64
        · have hlt' : (k : Int) < 64 := by omega
          have hL := Lib.hid hlt
          have hll : (layAt zb 0 (P.take k)).length = 64 := by rw [layAt_len _ _ _ (by rw [zb_len]; simp; omega), zb_len]
          have e12 := cs_byte HK.out k (by rw [hll]; exact hlt)
          have f12 := HK.out.frozen k
          have HN := Lib.hid (lay64_next HPL.out hlt HK.out)
          have hat := HPA.out k hlt
          generalize P.getD k 0 = pk at *
          generalize (layAt zb 0 (P.take k))[k]'(by rw [hll]; exact hlt) = xk at *
          obtain ⟨r, hr⟩ : ∃ r : Nat, r = k % 16 := ⟨_, rfl⟩
          have hr1 : (k : Int).tmod 16 = (r : Int) := by rw [Int.tmod_eq_emod_of_nonneg (by omega)]; omega
          by_cases h4 : k % 16 < 4
          · rw [if_pos h4, ← hr] at hat
            have e8 := rd_cellD (R8d.out.below HB.out) (r := r) (by rw [HHL.out]; omega)
            rw [← hat] at e8
            have hr2 : (r : Int) < 4 := by omega
            clear hat h4 hr hll hlt hk
            go_wp2_with fail
            trace_state
            go_roundw
            case rel => exact ⟨k + 1, by have := hL.out; omega, by go_num, HN.out, HB.out.setCell (p := ⟨g12, k, none⟩) G12.out _⟩
            case measure => simp [intOf]; have := hL.out; omega
          · rw [if_neg h4] at hat
            obtain ⟨q, hq⟩ : ∃ q : Nat, q = k / 16 := ⟨_, rfl⟩
            obtain ⟨s, hs⟩ : ∃ s : Nat, s = k / 16 * 12 + k % 16 - 4 := ⟨_, rfl⟩
            have hq1 : (k : Int).tdiv 16 = (q : Int) := by rw [Int.tdiv_eq_ediv_of_nonneg (by omega)]; omega
            rw [← hs] at hat
            have ea := rd_cellD (RA.out.below HB.out) (r := s) (by rw [HAL.out]; omega)
            rw [← hat] at ea
            have hr2 : decide ((r : Int) < 4) = false := by simp; omega
            have hq4 : (q : Int) < 4 := by omega
            have hr16 : (r : Int) < 16 := by omega
            have hsum : (q : Int) * 12 + (r : Int) - 4 = (s : Int) := by omega
            have hs48 : (s : Int) < 48 := by omega
            clear hat h4 hr hll hlt hk hq hs
            go_wp2_with fail
            trace_state
            go_roundw
            case rel => exact ⟨k + 1, by have := hL.out; omega, by go_num, HN.out, HB.out.setCell (p := ⟨g12, k, none⟩) G12.out _⟩
            case measure => simp [intOf]; have := hL.out; omega
        · obtain rfl : k = 64 := by omega
          have hKK := HK.out
          rw [List.take_of_length_le (by rw [HPL.out]; exact Nat.le_refl _)] at hKK
          have HKK := Lib.hid (lay64_all HPL.out hKK)
          have K4f := Lib.hid (K4e.out.below HB.out K4e.out.lt)
          have BE := Lib.hid (below_chain BW7.out HB.out)
          rw [← HPT.out] at HKK HPL
          clear hKK HK HB HPT HPA
          rw [show ((64 : Nat) : Int) = 64 from rfl]
          go_wp2_with (first
            | (refine wpList_load_blk rfl _ rfl g12 0 rfl (putN n b) HPL.out (At.whole HKK.out) ?_; go_frame)
            | (refine wpList_fill_blk rfl _ _ rfl g4 rfl (putN n b) rfl HPL.out K4f.out ?_; intro w14 hk14 hr14; go_frame))
          refine bodyPost_ret (v := .tuple #[bv (putN n b), .int .i64 0]) ?_ rfl ⟨rfl, keep_own BE.out hr14 G4.out⟩
          exact end_blk (p := 4) (u := 5) rfl _ _ g4 0 _ _ rfl rfl (At.whole hk14) HPL.out

end Go.Proofs.Ytlhbipommhljiaa
