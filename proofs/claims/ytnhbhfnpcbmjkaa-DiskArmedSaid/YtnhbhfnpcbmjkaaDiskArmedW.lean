/- The walk of DiskArmed: armed with n, behind n tries or more the power is gone, and n - 1 were work. -/
import Derived.Test.YtnhbhfnpcbmjkaaDiskNilW
namespace Go.Proofs.Ytnhbhfnpcbmjkaa
open Go.RowKit Go.Shelf Go.Maps
set_option linter.unusedVariables false
set_option linter.unusedSimpArgs false

/-- what is known of the disk behind i tries -/
def ArmedI (s : DS) (n i : Nat) : Prop := s.blocks = 70 ∧ s.q.length ≤ i ∧ s.steps ≤ i ∧
  ((n = 0 ∧ s.dark = false ∧ s.left = 0 ∧ s.steps = i) ∨ (0 < n ∧ i < n ∧ s.dark = false ∧ s.left = n - i ∧ s.steps = i) ∨ (0 < n ∧ n ≤ i ∧ s.dark = true ∧ s.steps = n - 1))
def wantE (n i : Nat) : Int := if 0 < n ∧ n ≤ i + 1 then 9 else 0
theorem armedI_new (n : Nat) : ArmedI (armS (fresh 70) (n : Int)) n 0 := by
  have e : armS (fresh 70) (n : Int) = armed (fresh 70) n := by
    unfold armS
    rw [if_neg (by rintro (h | h); cases h; omega)]
    simp
  rw [e]
  refine ⟨rfl, Nat.le_refl _, Nat.le_refl _, ?_⟩
  by_cases h : n = 0
  · exact .inl ⟨h, rfl, h, rfl⟩
  · exact .inr (.inl ⟨by omega, by omega, rfl, rfl, rfl⟩)
theorem armE_new (n : Nat) : armE (fresh 70) (n : Int) = 0 := by
  unfold armE
  rw [if_neg (by decide), if_neg (by omega)]
theorem armedI_flush {s : DS} {n i : Nat} (h : ArmedI s n i) : ArmedI (flushS s) n (i + 1) ∧ flushE s = wantE n i := by
  obtain ⟨hb, hq, hst, h⟩ := h
  rcases h with ⟨h0, hd, hl, hs⟩ | ⟨h0, hi, hd, hl, hs⟩ | ⟨h0, hi, hd, hs⟩
  · have h1 : ¬ s.left = 1 := by omega
    rw [show flushS s = flushed s from by simp [flushS, hd, h1], show flushE s = 0 from by simp [flushE, hd, h1], show wantE n i = 0 from by unfold wantE; rw [if_neg (by omega)]]
    refine ⟨⟨hb, Nat.zero_le _, ?_, .inl ⟨h0, hd, ?_, ?_⟩⟩, rfl⟩
    · show s.steps + 1 ≤ _; omega
    · show (if 1 < s.left then s.left - 1 else s.left) = 0
      rw [if_neg (by omega)]; exact hl
    · show s.steps + 1 = _; omega
  · by_cases h1 : s.left = 1
    · rw [show flushS s = gone s from by simp [flushS, hd, h1], show flushE s = 9 from by simp [flushE, hd, h1], show wantE n i = 9 from by unfold wantE; rw [if_pos (by omega)]]
      refine ⟨⟨hb, ?_, ?_, .inr (.inr ⟨h0, by omega, rfl, ?_⟩)⟩, rfl⟩
      · show s.q.length ≤ _; omega
      · show s.steps ≤ _; omega
      · show s.steps = _; omega
    · rw [show flushS s = flushed s from by simp [flushS, hd, h1], show flushE s = 0 from by simp [flushE, hd, h1], show wantE n i = 0 from by unfold wantE; rw [if_neg (by omega)]]
      refine ⟨⟨hb, Nat.zero_le _, ?_, .inr (.inl ⟨h0, by omega, hd, ?_, ?_⟩)⟩, rfl⟩
      · show s.steps + 1 ≤ _; omega
      · show (if 1 < s.left then s.left - 1 else s.left) = _
        rw [if_pos (by omega)]; omega
      · show s.steps + 1 = _; omega
  · rw [show flushS s = s from by simp [flushS, hd], show flushE s = 9 from by simp [flushE, hd], show wantE n i = 9 from by unfold wantE; rw [if_pos (by omega)]]
    exact ⟨⟨hb, by omega, by omega, .inr (.inr ⟨h0, by omega, hd, hs⟩)⟩, rfl⟩
theorem armedI_write {s : DS} {n i : Nat} (h : ArmedI s n i) (k : Int) (l : Blk) (hk : 0 ≤ k ∧ k < 70) : ArmedI (writeS s k l) n (i + 1) ∧ writeE s k = wantE n i := by
  obtain ⟨hb, hq, hst, h⟩ := h
  have hin : inB s k = true := by unfold inB; rw [hb]; simp; omega
  rcases h with ⟨h0, hd, hl, hs⟩ | ⟨h0, hi, hd, hl, hs⟩ | ⟨h0, hi, hd, hs⟩
  · have h1 : ¬ s.left = 1 := by omega
    rw [show writeS s k l = wrote s k l from by simp [writeS, hd, hin, h1], show writeE s k = 0 from by simp [writeE, hd, hin, h1], show wantE n i = 0 from by unfold wantE; rw [if_neg (by omega)]]
    refine ⟨⟨hb, by show (s.q ++ [(k, l)]).length ≤ _; simp; omega, ?_, .inl ⟨h0, hd, ?_, ?_⟩⟩, rfl⟩
    · show s.steps + 1 ≤ _; omega
    · show (if 1 < s.left then s.left - 1 else s.left) = 0
      rw [if_neg (by omega)]; exact hl
    · show s.steps + 1 = _; omega
  · by_cases h1 : s.left = 1
    · rw [show writeS s k l = gone s from by simp [writeS, hd, hin, h1], show writeE s k = 9 from by simp [writeE, hd, hin, h1], show wantE n i = 9 from by unfold wantE; rw [if_pos (by omega)]]
      refine ⟨⟨hb, ?_, ?_, .inr (.inr ⟨h0, by omega, rfl, ?_⟩)⟩, rfl⟩
      · show s.q.length ≤ _; omega
      · show s.steps ≤ _; omega
      · show s.steps = _; omega
    · rw [show writeS s k l = wrote s k l from by simp [writeS, hd, hin, h1], show writeE s k = 0 from by simp [writeE, hd, hin, h1], show wantE n i = 0 from by unfold wantE; rw [if_neg (by omega)]]
      refine ⟨⟨hb, by show (s.q ++ [(k, l)]).length ≤ _; simp; omega, ?_, .inr (.inl ⟨h0, by omega, hd, ?_, ?_⟩)⟩, rfl⟩
      · show s.steps + 1 ≤ _; omega
      · show (if 1 < s.left then s.left - 1 else s.left) = _
        rw [if_pos (by omega)]; omega
      · show s.steps + 1 = _; omega
  · rw [show writeS s k l = s from by simp [writeS, hd, hin], show writeE s k = 9 from by simp [writeE, hd, hin], show wantE n i = 9 from by unfold wantE; rw [if_pos (by omega)]]
    exact ⟨⟨hb, by omega, by omega, .inr (.inr ⟨h0, by omega, hd, hs⟩)⟩, rfl⟩
theorem new70 (w : World) : Calls Try.prog 7 #[.int .i64 70] w fun e w' => ∃ d, e = .returned (.tuple #[.pointer (some ⟨d, 0, none⟩), .int .i64 0]) ∧ DiskV w' d (fresh 70) (w.heap.size ≤ ·) ∧ Below w.heap.size w w' := New_v 70 w (by decide) (by decide)
/-- what stands at a round's head -/
def ArmW (w w0 : World) (g d n : Nat) (b : Blk) (i : Nat) (wr : World) : Prop := ∃ s, ArmedI s n i ∧ DiskV wr d s (w0.heap.size ≤ ·) ∧ Cs wr g 30 (cellsOf b).toArray ∧ Below w0.heap.size w0 wr
set_option maxHeartbeats 4000000 in
theorem diskArmed_walk (n more : Nat) (b : Blk) (w : World) (hn : n < 256) (hm : more < 256) (hb : b.length = 64) :
    Calls Try.prog 5 #[.int .u8 (n : Int), .int .u8 (more : Int), bv b] w fun e w' => e = .returned (.bool true) ∧ Below w.heap.size w w' := by
  have HB := Lib.hid hb
  have hn0 : (0 : Int) ≤ n := by omega
  have hn1 : (n : Int) ≤ 255 := by omega
  have hm0 : (0 : Int) ≤ more := by omega
  have hm1 : (more : Int) ≤ 255 := by omega
  have HN := Lib.hid hn
  have HM := Lib.hid hm
  clear hb hn hm
  go_enter Try.func5, Try.ntmps5
  go_wp2_with (refine wpList_box_blk rfl (.tmp 2) rfl b rfl ?_; intro g w0 hk hb hg; go_frame; have K0 := Lib.hid hk; have B0 := Lib.hid hb; have G0 := Lib.hid hg; clear hk hb hg)
  refine (new70 _).mono ?_
  rintro e w1 ⟨d, rfl, hd, hb⟩
  have D1 := Lib.hid hd
  have B1 := Lib.hid hb
  clear hd hb
  go_wp2_with fail
  have c := Arm_v D1.out (fun k hk => Nat.le_trans B1.out.size hk) (n : Int) (by omega)
  rw [armE_new n] at c
  refine c.mono ?_
  clear c
  rintro e w2 ⟨rfl, hd, ht⟩
  have HI0 := Lib.hid (show ArmW w w0 g d n b 0 w2 from ⟨_, armedI_new n, hd, (K0.out.below B1.out K0.out.lt).turn ht (fun h => by have := K0.out.lt; omega), B1.out.trans (ht.below B1.out.size fun k hk => hk)⟩)
  clear hd ht
  go_wp2_with fail
  go_loopw [10] (fun c wr => ∃ i : Nat, i ≤ n + more ∧ c = .int .i64 i ∧ ArmW w w0 g d n b i wr) (fun c _ => n + more - (intOf c).toNat)
  case atStart => exact ⟨0, Nat.zero_le _, rfl, HI0.out⟩
  case round =>
    obtain ⟨k, hk, rfl, hI⟩ := hrel
    have hk0 : (0 : Int) ≤ (k : Int) := by omega
    have hk1 : (k : Int) ≤ 510 := by have := HN.out; have := HM.out; omega
    obtain ⟨s, ha, hv, hc, hbl⟩ := hI
    have HA := Lib.hid ha
    have HV := Lib.hid hv
    have HC := Lib.hid hc
    have HBL := Lib.hid hbl
    clear ha hv hc hbl
    by_cases hlt : k < n + more
    · have lt1 : (k : Int) < (n : Int) + (more : Int) := by omega
      by_cases h0 : n = 0
      · have z1 : decide ((0 : Int) < (n : Int)) = false := by simp; omega
        have z1b : decide (0 < n) = false := by simp; omega
        have WE := Lib.hid (show wantE n k = 0 from if_neg (by omega))
        clear h0
        by_cases h5 : k % 5 = 4
        · have e5 : ((k : Int) % 5 == 4) = true := by simp; omega
          have e6 : ((k : Int) % 5 != 4) = false := by simp; omega
          clear h5
          go_wp2_with (refine wpList_load_blk_g rfl (.tmp 5) rfl g 0 rfl b HB.out (At.whole HC.out) ?_; go_frame)
          have c := Flush_v HV.out (fun k hk => Nat.le_trans HBL.out.size hk) (by have := HA.out.2.2.1; omega) (by have := HA.out.2.1; omega)
          have AN := Lib.hid (armedI_flush HA.out)
          rw [AN.out.2, WE.out] at c
          refine c.mono ?_
          clear c
          rintro e w4 ⟨rfl, hd4, ht4⟩
          have HN4 := Lib.hid (show ArmW w w0 g d n b (k + 1) w4 from ⟨_, AN.out.1, hd4, HC.out.turn ht4 (fun h => by have := K0.out.lt; omega), HBL.out.trans (ht4.below HBL.out.size fun k hk => hk)⟩)
          clear hd4 ht4
          go_wp2_with fail
          go_roundw
          case rel => exact ⟨k + 1, by omega, by go_num, HN4.out⟩
          case measure => simp [intOf]; omega
        · have e5 : ((k : Int) % 5 == 4) = false := by simp; omega
          have e6 : ((k : Int) % 5 != 4) = true := by simp; omega
          clear h5
          go_wp2_with (refine wpList_load_blk_g rfl (.tmp 5) rfl g 0 rfl b HB.out (At.whole HC.out) ?_; go_frame)
          have c := Write_v HV.out (fun k hk => Nat.le_trans HBL.out.size hk) ((k : Int) % 70) b HB.out (by have := HA.out.2.2.1; omega) (by have := HA.out.2.1; omega)
          have AN := Lib.hid (armedI_write HA.out ((k : Int) % 70) b (by omega))
          rw [AN.out.2, WE.out] at c
          refine c.mono ?_
          clear c
          rintro e w4 ⟨rfl, hd4, ht4⟩
          have HN4 := Lib.hid (show ArmW w w0 g d n b (k + 1) w4 from ⟨_, AN.out.1, hd4, HC.out.turn ht4 (fun h => by have := K0.out.lt; omega), HBL.out.trans (ht4.below HBL.out.size fun k hk => hk)⟩)
          clear hd4 ht4
          go_wp2_with fail
          go_roundw
          case rel => exact ⟨k + 1, by omega, by go_num, HN4.out⟩
          case measure => simp [intOf]; omega
      · have z1 : (0 : Int) < (n : Int) := by omega
        have z1b : 0 < n := by omega
        by_cases h1 : n ≤ k + 1
        · have z2 : (n : Int) - 1 ≤ (k : Int) := by omega
          have WE := Lib.hid (show wantE n k = 9 from if_pos (by omega))
          clear h0 h1
          by_cases h5 : k % 5 = 4
          · have e5 : ((k : Int) % 5 == 4) = true := by simp; omega
            have e6 : ((k : Int) % 5 != 4) = false := by simp; omega
            clear h5
            go_wp2_with (refine wpList_load_blk_g rfl (.tmp 5) rfl g 0 rfl b HB.out (At.whole HC.out) ?_; go_frame)
            have c := Flush_v HV.out (fun k hk => Nat.le_trans HBL.out.size hk) (by have := HA.out.2.2.1; omega) (by have := HA.out.2.1; omega)
            have AN := Lib.hid (armedI_flush HA.out)
            rw [AN.out.2, WE.out] at c
            refine c.mono ?_
            clear c
            rintro e w4 ⟨rfl, hd4, ht4⟩
            have HN4 := Lib.hid (show ArmW w w0 g d n b (k + 1) w4 from ⟨_, AN.out.1, hd4, HC.out.turn ht4 (fun h => by have := K0.out.lt; omega), HBL.out.trans (ht4.below HBL.out.size fun k hk => hk)⟩)
            clear hd4 ht4
            go_wp2_with fail
            go_roundw
            case rel => exact ⟨k + 1, by omega, by go_num, HN4.out⟩
            case measure => simp [intOf]; omega
          · have e5 : ((k : Int) % 5 == 4) = false := by simp; omega
            have e6 : ((k : Int) % 5 != 4) = true := by simp; omega
            clear h5
            go_wp2_with (refine wpList_load_blk_g rfl (.tmp 5) rfl g 0 rfl b HB.out (At.whole HC.out) ?_; go_frame)
            have c := Write_v HV.out (fun k hk => Nat.le_trans HBL.out.size hk) ((k : Int) % 70) b HB.out (by have := HA.out.2.2.1; omega) (by have := HA.out.2.1; omega)
            have AN := Lib.hid (armedI_write HA.out ((k : Int) % 70) b (by omega))
            rw [AN.out.2, WE.out] at c
            refine c.mono ?_
            clear c
            rintro e w4 ⟨rfl, hd4, ht4⟩
            have HN4 := Lib.hid (show ArmW w w0 g d n b (k + 1) w4 from ⟨_, AN.out.1, hd4, HC.out.turn ht4 (fun h => by have := K0.out.lt; omega), HBL.out.trans (ht4.below HBL.out.size fun k hk => hk)⟩)
            clear hd4 ht4
            go_wp2_with fail
            go_roundw
            case rel => exact ⟨k + 1, by omega, by go_num, HN4.out⟩
            case measure => simp [intOf]; omega
        · have z2 : decide ((n : Int) - 1 ≤ (k : Int)) = false := by simp; omega
          have WE := Lib.hid (show wantE n k = 0 from if_neg (by omega))
          clear h0 h1
          by_cases h5 : k % 5 = 4
          · have e5 : ((k : Int) % 5 == 4) = true := by simp; omega
            have e6 : ((k : Int) % 5 != 4) = false := by simp; omega
            clear h5
            go_wp2_with (refine wpList_load_blk_g rfl (.tmp 5) rfl g 0 rfl b HB.out (At.whole HC.out) ?_; go_frame)
            have c := Flush_v HV.out (fun k hk => Nat.le_trans HBL.out.size hk) (by have := HA.out.2.2.1; omega) (by have := HA.out.2.1; omega)
            have AN := Lib.hid (armedI_flush HA.out)
            rw [AN.out.2, WE.out] at c
            refine c.mono ?_
            clear c
            rintro e w4 ⟨rfl, hd4, ht4⟩
            have HN4 := Lib.hid (show ArmW w w0 g d n b (k + 1) w4 from ⟨_, AN.out.1, hd4, HC.out.turn ht4 (fun h => by have := K0.out.lt; omega), HBL.out.trans (ht4.below HBL.out.size fun k hk => hk)⟩)
            clear hd4 ht4
            go_wp2_with fail
            go_roundw
            case rel => exact ⟨k + 1, by omega, by go_num, HN4.out⟩
            case measure => simp [intOf]; omega
          · have e5 : ((k : Int) % 5 == 4) = false := by simp; omega
            have e6 : ((k : Int) % 5 != 4) = true := by simp; omega
            clear h5
            go_wp2_with (refine wpList_load_blk_g rfl (.tmp 5) rfl g 0 rfl b HB.out (At.whole HC.out) ?_; go_frame)
            have c := Write_v HV.out (fun k hk => Nat.le_trans HBL.out.size hk) ((k : Int) % 70) b HB.out (by have := HA.out.2.2.1; omega) (by have := HA.out.2.1; omega)
            have AN := Lib.hid (armedI_write HA.out ((k : Int) % 70) b (by omega))
            rw [AN.out.2, WE.out] at c
            refine c.mono ?_
            clear c
            rintro e w4 ⟨rfl, hd4, ht4⟩
            have HN4 := Lib.hid (show ArmW w w0 g d n b (k + 1) w4 from ⟨_, AN.out.1, hd4, HC.out.turn ht4 (fun h => by have := K0.out.lt; omega), HBL.out.trans (ht4.below HBL.out.size fun k hk => hk)⟩)
            clear hd4 ht4
            go_wp2_with fail
            go_roundw
            case rel => exact ⟨k + 1, by omega, by go_num, HN4.out⟩
            case measure => simp [intOf]; omega
    · obtain rfl : k = n + more := by omega
      by_cases h0 : n = 0
      · have z1 : decide ((0 : Int) < (n : Int)) = false := by simp; omega
        have z1b : decide (0 < n) = false := by simp; omega
        have HS := Lib.hid (show s.dark = false ∧ (s.steps : Int) = (n : Int) + (more : Int) by
          obtain ⟨-, -, -, h⟩ := HA.out
          rcases h with ⟨-, h1, -, h2⟩ | ⟨h, _⟩ | ⟨h, _⟩
          · exact ⟨h1, by omega⟩
          · omega
          · omega)
        clear h0 hlt
        go_wp2_with fail
        have c := Dark_v HV.out
        rw [HS.out.1] at c
        refine c.mono ?_
        clear c
        rintro e _ ⟨rfl, rfl⟩
        go_wp2_with fail
        have c := Steps_v HV.out
        rw [HS.out.2] at c
        refine c.mono ?_
        clear c
        rintro e _ ⟨rfl, rfl⟩
        go_wp2_with fail
        refine (lives_any _).mono ?_
        rintro e w5 ⟨rfl, hb5⟩
        have B5 := Lib.hid hb5
        clear hb5
        go_wp2_with fail
        go_ret
        exact ⟨rfl, below_chain (B0.out.trans (HBL.out.mono B0.out.size)) B5.out⟩
      · have z1 : (0 : Int) < (n : Int) := by omega
        have z1b : 0 < n := by omega
        have HS := Lib.hid (show s.dark = true ∧ (s.steps : Int) = (n : Int) - 1 by
          obtain ⟨-, -, -, h⟩ := HA.out
          rcases h with ⟨h, _⟩ | ⟨_, h, _⟩ | ⟨-, -, h1, h2⟩
          · omega
          · omega
          · exact ⟨h1, by omega⟩)
        clear h0 hlt
        go_wp2_with fail
        have c := Dark_v HV.out
        rw [HS.out.1] at c
        refine c.mono ?_
        clear c
        rintro e _ ⟨rfl, rfl⟩
        go_wp2_with fail
        have c := Steps_v HV.out
        rw [HS.out.2] at c
        refine c.mono ?_
        clear c
        rintro e _ ⟨rfl, rfl⟩
        go_wp2_with fail
        refine (lives_any _).mono ?_
        rintro e w5 ⟨rfl, hb5⟩
        have B5 := Lib.hid hb5
        clear hb5
        go_wp2_with fail
        go_ret
        exact ⟨rfl, below_chain (B0.out.trans (HBL.out.mono B0.out.size)) B5.out⟩

end Go.Proofs.Ytnhbhfnpcbmjkaa
