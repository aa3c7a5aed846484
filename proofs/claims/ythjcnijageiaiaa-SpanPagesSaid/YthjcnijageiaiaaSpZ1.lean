/- The program: May, Len, Pages; whether a place, a span is in one. -/
import Derived.Test.YthjcnijageiaiaaSpaK
namespace Go.Proofs.Ythjcnijageiaiaa
open Go.RowKit Go.Shelf
set_option linter.unusedVariables false
set_option maxRecDepth 100000
set_option linter.unusedSimpArgs false

def spanZ : List Value := [.int .u32 0, .int .u32 0]
theorem spanZero (w : World) : (zeroValue 25).run Try.prog w = .ok (.agg spanZ.toArray) w := by kernel_rfl
theorem spC_one (s : Sp) : ∀ v ∈ spC s, v.oneCell' = true := by
  intro v hv
  simp [spC] at hv
  rcases hv with rfl | rfl <;> rfl
/-- an element's cells, all -/
theorem sp_cells {w : World} {F : Nat → Prop} {A : Option Addr} {ls : List Sp} (h : RdX spE w F A ls) (j : Nat) (hj : j < ls.length) : ∃ b off, A = some ⟨b, off, none⟩ ∧ At w b (off + j * 2) (spC ls[j]) ∧ ls[j].1 < 4294967296 ∧ ls[j].2 < 4294967296 := by
  obtain ⟨b, off, cs, e, ⟨rfl, h1⟩, hat⟩ := h.get j hj
  exact ⟨b, off, e, hat, h1⟩
set_option maxHeartbeats 8000000 in
theorem May_v (l : List Sp) (A : Option Addr) (c : Nat) (F : Nat → Prop) (w : World) (hl : l.length ≤ 140737488355328) (r : RdX spE w F A l) :
    Calls Try.prog 13 #[.slice A l.length c] w fun e w' => e = .returned (.bool (mayS l)) ∧ Below w.heap.size w w' := by
  have HP := Lib.hid r
  clear r
  go_enter Try.func13, Try.ntmps13
  go_wp2
  go_loopw [7] (fun j wr => ∃ k : Nat, j = .int .i64 k ∧ MayI l k ∧ Below w.heap.size w wr) (fun j _ => l.length - (RowKit.intOf j).toNat)
  case atStart => exact ⟨0, rfl, ⟨Nat.zero_le _, rfl⟩, Below.refl _ _⟩
  case round =>
    obtain ⟨k, rfl, hI, hB⟩ := hrel
    by_cases hk : k < l.length
    · obtain ⟨b, off, rfl, hat, -⟩ := sp_cells (HP.out.below hB) k hk
      have HX := Lib.hid (fun e => mayS_no hk e)
      have HY := Lib.hid (fun e1 e2 => hI.next hk e1 e2)
      have HAT := Lib.hid hat
      have HB := Lib.hid hB
      clear hI hat
      cases k with
      | zero =>
        have ha := Lib.hid (show aheadS l 0 ≤ l[0].1 from Nat.zero_le _)
        simp only [Nat.zero_mul, Nat.add_zero] at HAT
        generalize l[0] = x at *
        obtain ⟨x1, x2⟩ := x
        dsimp only at *
        clear hB
        by_cases h1 : x1 < x2
        · have e1 : ¬ x2 ≤ x1 := by omega
          have hf := Lib.hid (HY.out ha.out h1)
          clear HX HY ha h1
          go_wp2_with (first
            | ((with_reducible show wpList _ _ _ _ _ wr); refine wpList_load_agg rfl 25 _ rfl b off rfl (spC (x1, x2)) HAT.out _ Try.underlying25 rfl infoSpan ?_; go_frame)
            | ((with_reducible show wpList _ _ _ _ _ wr); refine wpList_allocS rfl 25 rfl spanZ spanZero ?_; intro g1 w1 hk1 hb1 hg1; go_frame; have C1 := Lib.hid hk1; have B1 := Lib.hid hb1; have G1 := Lib.hid hg1; clear hk1 hb1 hg1)
            | ((with_reducible show wpList _ _ _ _ _ w1); refine wpList_storeS rfl 25 _ _ rfl g1 rfl (spC (x1, x2)) spanZ rfl C1.out rfl (spC_one _) infoSpan ?_; intro w2 hk2 ht2; go_frame; have q0 : w2.cell? ⟨g1, 0, none⟩ = some (.int .u32 (x1 : Int)) := hk2.cell 0 rfl; have q1 : w2.cell? ⟨g1, 1, none⟩ = some (.int .u32 (x2 : Int)) := hk2.cell 1 rfl; have B2 := Lib.hid (below_chain HB.out (below_turn B1.out ht2 B1.out.size G1.out)); clear hk2 ht2)
            | fail)
          go_quiet (fail)
          go_wp2_with fail
          go_roundw
          case rel => exact ⟨1, by go_num, hf.out, below_drewN B2.out _⟩
          case measure => simp [RowKit.intOf]; omega
        · have e1 : x2 ≤ x1 := by omega
          have hf := Lib.hid (HX.out fun h => h1 h.2)
          clear HX HY ha h1
          go_wp2_with (first
            | ((with_reducible show wpList _ _ _ _ _ wr); refine wpList_load_agg rfl 25 _ rfl b off rfl (spC (x1, x2)) HAT.out _ Try.underlying25 rfl infoSpan ?_; go_frame)
            | ((with_reducible show wpList _ _ _ _ _ wr); refine wpList_allocS rfl 25 rfl spanZ spanZero ?_; intro g1 w1 hk1 hb1 hg1; go_frame; have C1 := Lib.hid hk1; have B1 := Lib.hid hb1; have G1 := Lib.hid hg1; clear hk1 hb1 hg1)
            | ((with_reducible show wpList _ _ _ _ _ w1); refine wpList_storeS rfl 25 _ _ rfl g1 rfl (spC (x1, x2)) spanZ rfl C1.out rfl (spC_one _) infoSpan ?_; intro w2 hk2 ht2; go_frame; have q0 : w2.cell? ⟨g1, 0, none⟩ = some (.int .u32 (x1 : Int)) := hk2.cell 0 rfl; have q1 : w2.cell? ⟨g1, 1, none⟩ = some (.int .u32 (x2 : Int)) := hk2.cell 1 rfl; have B2 := Lib.hid (below_chain HB.out (below_turn B1.out ht2 B1.out.size G1.out)); clear hk2 ht2)
            | fail)
          go_quiet (fail)
          go_wp2_with fail
          go_ret
          exact ⟨by rw [hf.out]; first | done | rfl, below_drewN B2.out _⟩
      | succ m =>
        have HD := Lib.hid (show ∀ W, Below w.heap.size w W → W.cell? ⟨b, off + m * 2 + 1, none⟩ = some (.int .u32 (l[m].2 : Int)) from fun W hb => by obtain ⟨b', off', e', -, h, -⟩ := sp_at (HP.out.below hb) m (by omega); cases e'; exact h)
        have ha := Lib.hid (aheadS_succ (l := l) (k := m) (by omega))
        have hk0 : (0 : Int) < ((m + 1 : Nat) : Int) := by omega
        generalize l[m + 1] = x at *
        generalize l[m] = y at *
        obtain ⟨x1, x2⟩ := x
        obtain ⟨y1, y2⟩ := y
        dsimp only at *
        clear hB
        by_cases h1 : x1 < x2
        · have e1 : ¬ x2 ≤ x1 := by omega
          by_cases h2 : y2 < x1
          · have e2 : ¬ x1 ≤ y2 := by omega
            have hf := Lib.hid (HY.out (by rw [ha.out]; exact h2) h1)
            clear HX HY ha h1 h2
            go_wp2_with (first
              | ((with_reducible show wpList _ _ _ _ _ wr); refine wpList_load_agg rfl 25 _ rfl b (off + (m + 1) * 2) rfl (spC (x1, x2)) HAT.out _ Try.underlying25 rfl infoSpan ?_; go_frame)
              | ((with_reducible show wpList _ _ _ _ _ wr); refine wpList_allocS rfl 25 rfl spanZ spanZero ?_; intro g1 w1 hk1 hb1 hg1; go_frame; have C1 := Lib.hid hk1; have B1 := Lib.hid hb1; have G1 := Lib.hid hg1; clear hk1 hb1 hg1)
              | ((with_reducible show wpList _ _ _ _ _ w1); refine wpList_storeS rfl 25 _ _ rfl g1 rfl (spC (x1, x2)) spanZ rfl C1.out rfl (spC_one _) infoSpan ?_; intro w2 hk2 ht2; go_frame; have q0 : w2.cell? ⟨g1, 0, none⟩ = some (.int .u32 (x1 : Int)) := hk2.cell 0 rfl; have q1 : w2.cell? ⟨g1, 1, none⟩ = some (.int .u32 (x2 : Int)) := hk2.cell 1 rfl; have hb2 := below_chain HB.out (below_turn B1.out ht2 B1.out.size G1.out); have q2 := HD.out _ hb2; have B2 := Lib.hid hb2; clear hk2 ht2 hb2)
              | fail)
            go_quiet (fail)
            go_wp2_with fail
            go_roundw
            case rel => exact ⟨m + 1 + 1, by go_num, hf.out, below_drewN B2.out _⟩
            case measure => simp [RowKit.intOf]; omega
          · have e2 : x1 ≤ y2 := by omega
            have hf := Lib.hid (HX.out fun h => h2 (by have := h.1; rw [ha.out] at this; exact this))
            clear HX HY ha h1 h2
            go_wp2_with (first
              | ((with_reducible show wpList _ _ _ _ _ wr); refine wpList_load_agg rfl 25 _ rfl b (off + (m + 1) * 2) rfl (spC (x1, x2)) HAT.out _ Try.underlying25 rfl infoSpan ?_; go_frame)
              | ((with_reducible show wpList _ _ _ _ _ wr); refine wpList_allocS rfl 25 rfl spanZ spanZero ?_; intro g1 w1 hk1 hb1 hg1; go_frame; have C1 := Lib.hid hk1; have B1 := Lib.hid hb1; have G1 := Lib.hid hg1; clear hk1 hb1 hg1)
              | ((with_reducible show wpList _ _ _ _ _ w1); refine wpList_storeS rfl 25 _ _ rfl g1 rfl (spC (x1, x2)) spanZ rfl C1.out rfl (spC_one _) infoSpan ?_; intro w2 hk2 ht2; go_frame; have q0 : w2.cell? ⟨g1, 0, none⟩ = some (.int .u32 (x1 : Int)) := hk2.cell 0 rfl; have q1 : w2.cell? ⟨g1, 1, none⟩ = some (.int .u32 (x2 : Int)) := hk2.cell 1 rfl; have hb2 := below_chain HB.out (below_turn B1.out ht2 B1.out.size G1.out); have q2 := HD.out _ hb2; have B2 := Lib.hid hb2; clear hk2 ht2 hb2)
              | fail)
            go_quiet (fail)
            go_wp2_with fail
            go_ret
            exact ⟨by rw [hf.out]; first | done | rfl, below_drewN B2.out _⟩
        · have e1 : x2 ≤ x1 := by omega
          have hf := Lib.hid (HX.out fun h => h1 h.2)
          clear HX HY ha h1
          go_wp2_with (first
            | ((with_reducible show wpList _ _ _ _ _ wr); refine wpList_load_agg rfl 25 _ rfl b (off + (m + 1) * 2) rfl (spC (x1, x2)) HAT.out _ Try.underlying25 rfl infoSpan ?_; go_frame)
            | ((with_reducible show wpList _ _ _ _ _ wr); refine wpList_allocS rfl 25 rfl spanZ spanZero ?_; intro g1 w1 hk1 hb1 hg1; go_frame; have C1 := Lib.hid hk1; have B1 := Lib.hid hb1; have G1 := Lib.hid hg1; clear hk1 hb1 hg1)
            | ((with_reducible show wpList _ _ _ _ _ w1); refine wpList_storeS rfl 25 _ _ rfl g1 rfl (spC (x1, x2)) spanZ rfl C1.out rfl (spC_one _) infoSpan ?_; intro w2 hk2 ht2; go_frame; have q0 : w2.cell? ⟨g1, 0, none⟩ = some (.int .u32 (x1 : Int)) := hk2.cell 0 rfl; have q1 : w2.cell? ⟨g1, 1, none⟩ = some (.int .u32 (x2 : Int)) := hk2.cell 1 rfl; have B2 := Lib.hid (below_chain HB.out (below_turn B1.out ht2 B1.out.size G1.out)); clear hk2 ht2)
            | fail)
          go_quiet (fail)
          go_wp2_with fail
          go_ret
          exact ⟨by rw [hf.out]; first | done | rfl, below_drewN B2.out _⟩
    · have hv := Lib.hid (hI.over hk)
      clear hI
      go_wp2_with fail
      go_ret
      exact ⟨by rw [hv.out]; first | done | rfl, hB⟩

end Go.Proofs.Ythjcnijageiaiaa
