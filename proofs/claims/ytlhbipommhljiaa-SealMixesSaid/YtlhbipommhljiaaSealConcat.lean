/- slices.Grow of nil, slices.Concat of two lists of bytes (44 and 4 of them). -/
import Derived.Test.YtlhbipommhljiaaSeal1
import Derived.Lib.AppendZeros
namespace Go.Proofs.Ytlhbipommhljiaa
open Go.RowKit Go.Shelf
set_option linter.unusedVariables false

theorem zeros_run (n : Nat) (h0 : 0 < n) (hn : n ≤ 281474976710656) (w : World) : ∃ cap Z, n ≤ cap ∧ cap ≤ maxLen ∧ Z.size = cap ∧
    (Builtin.append_ #[23, 3] 23 #[.slice none 0 0, .int .i64 (n : Int)]).run Try.prog w = .ok (.slice (some ⟨w.heap.size, 0, none⟩) n cap) (w.drew.alloc (.cells Z 5)) := by
  obtain ⟨i0, hi, hz0, hz1, hz2⟩ := info_parts Try_info5
  have h := Lib.run_append_nil_zeros (P := Try.prog) w 23 3 23 5 i0 (.int .u8 0) .i64 .i64 Try.underlying23 Try.underlying3 hi hz0 n h0 (by rw [hz1]; decide) (by omega) (by rw [hz2]; omega)
  have hge := grownCap_ge w n 0 5
  exact ⟨_, _, hge, grownCap_le_maxLen w n 0 5 (by unfold maxLen; omega), by simp [size_zeroCells, Value.cells]; omega, h⟩
theorem Grow_nil (n : Nat) (h0 : 0 < n) (hn : n ≤ 281474976710656) (w : World) : Calls Try.prog 33 #[.slice none 0 0, .int .i64 (n : Int)] w fun e w' =>
    ∃ v, e = .returned v ∧ w'.ownsRow w.heap.size 5 1 v 0 [] ∧ Below w.heap.size w w' := by
  obtain ⟨cap, Z, hc, hm, hZ, hrun⟩ := zeros_run n h0 hn w
  have hp : (0 : Int) < (n : Int) := by omega
  have hm' : cap ≤ 9223372036854775807 := by unfold maxLen at hm; omega
  have HC := Lib.hid hc
  have HN := Lib.hid hn
  have HM := Lib.hid hm
  clear hc h0 hm
  have hn' : (n : Int) ≤ 281474976710656 := by omega
  clear hn
  go_enter Try.func33, Try.ntmps33
  go_wp2_with (at_builtin; refine Lib.wpList_append_run _ rfl (.tmp 20) (.tmp 21) _ _ rfl (.slice none 0 0) (.int .i64 (n : Int)) rfl rfl _ _ hrun ?_)
  go_ret
  refine ⟨_, rfl, ⟨rfl, .inr ⟨w.heap.size, cap, Z, rfl, Nat.le_refl _, ?_, Nat.zero_le _, HM.out, by omega, by simp⟩⟩, (Below.refl _ _).drew.alloc (Nat.le_refl _) _⟩
  exact Cs.new w.drew 5 Z

def preC (p q : List UInt8) (k : Nat) : List UInt8 := if k = 0 then [] else if k = 1 then p else p ++ q
theorem preC_len (p q : List UInt8) (hp : p.length = 44) (hq : q.length = 4) (k : Nat) (hk : k ≤ 2) : (preC p q k).length = if k = 0 then 0 else if k = 1 then 44 else 48 := by
  unfold preC
  rcases (show k = 0 ∨ k = 1 ∨ k = 2 by omega) with rfl | rfl | rfl <;> simp [hp, hq]
set_option maxHeartbeats 1000000 in
theorem Concat_any (S : Nat) (p q : List UInt8) (pg qg : Nat) (pc qc : Nat) (hp : p.length = 44) (hq : q.length = 4) (w : World) (h0 : w.cell? ⟨S, 0, none⟩ = some (.slice (some ⟨pg, 0, none⟩) 44 pc)) (h1 : w.cell? ⟨S, 1, none⟩ = some (.slice (some ⟨qg, 0, none⟩) 4 qc))
    (hrp : Rd w (some ⟨pg, 0, none⟩) p) (hrq : Rd w (some ⟨qg, 0, none⟩) q) : Calls Try.prog 21 #[.slice (some ⟨S, 0, none⟩) 2 2] w fun e w' =>
    ∃ v, e = .returned v ∧ w'.ownsRow w.heap.size 5 1 v 48 (cellsOf (p ++ q)) ∧ Below w.heap.size w w' := by
  have HP := Lib.hid hp
  have HQ := Lib.hid hq
  have RP := Lib.hid hrp
  have RQ := Lib.hid hrq
  have H0 := Lib.hid h0
  have H1 := Lib.hid h1
  have hgrow := Grow_nil 48 (by decide) (by decide)
  rw [show ((48 : Nat) : Int) = 48 from rfl] at hgrow
  clear hp hq hrp hrq h0 h1
  go_enter Try.func21, Try.ntmps21
  go_wp2_with fail
  go_loop [3, 11] (fun s c => (s = .int .i64 0 ∧ c = .int .i64 0) ∨ (s = .int .i64 44 ∧ c = .int .i64 1) ∨ (s = .int .i64 48 ∧ c = .int .i64 2)) (fun _ c => 2 - (intOf c).toNat)
  case atStart => exact .inl ⟨rfl, rfl⟩
  case round =>
    rcases hrel with ⟨rfl, rfl⟩ | ⟨rfl, rfl⟩ | ⟨rfl, rfl⟩
    · have h0 := H0.out
      go_wp2_with fail
      go_round
      case rel => exact .inr (.inl ⟨rfl, rfl⟩)
      case measure => simp [intOf]
    · have h1 := H1.out
      go_wp2_with fail
      go_round
      case rel => exact .inr (.inr ⟨rfl, rfl⟩)
      case measure => simp [intOf]
    · go_wp2_with fail
      refine (hgrow _).mono ?_
      clear hgrow
      rintro e w1 ⟨v, rfl, hown, hb⟩
      have HO := Lib.hid hown
      have HB := Lib.hid hb
      clear hown hb
      go_wp2_with fail
      go_loopw [6, 27] (fun v c wr => ∃ k : Nat, k ≤ 2 ∧ c = .int .i64 k ∧ wr.ownsRow w.heap.size 5 1 v (preC p q k).length (cellsOf (preC p q k)) ∧ Below w.heap.size w wr) (fun _ c _ => 2 - (intOf c).toNat)
      case atStart => exact ⟨0, by decide, rfl, HO.out, HB.out⟩
      case round =>
        obtain ⟨k, hk, rfl, hown, hb⟩ := hrel
        have HOW := Lib.hid hown
        have HBW := Lib.hid hb
        clear hown hb
        rcases (show k = 0 ∨ k = 1 ∨ k = 2 by omega) with rfl | rfl | rfl
        · have h0 := (HBW.out.cell (lt_of_cell H0.out)).trans H0.out
          go_wp2_with (at_builtin; refine append_rd rfl (.tmp 31) (.tmp 32) rfl w.heap.size _ _ _ rfl HOW.out _ p 44 pc HP.out.symm rfl (RP.out.below HBW.out) (by intro h; cases h) (by simp [preC]) HBW.out.size ?_; intro v2 w2 hown2 hgr2)
          go_roundw
          case rel => exact ⟨1, by decide, rfl, by rw [show (preC p q 1).length = (preC p q 0).length + 44 by simp [preC, HP.out]]; exact hown2, HBW.out.grown hgr2 HBW.out.size (own_base HOW.out)⟩
          case measure => simp [intOf]
        · have h1 := (HBW.out.cell (lt_of_cell H1.out)).trans H1.out
          go_wp2_with (at_builtin; refine append_rd rfl (.tmp 31) (.tmp 32) rfl w.heap.size _ _ _ rfl HOW.out _ q 4 qc HQ.out.symm rfl (RQ.out.below HBW.out) (by intro h; cases h) (by simp [preC, HP.out]) HBW.out.size ?_; intro v2 w2 hown2 hgr2)
          go_roundw
          case rel => exact ⟨2, by decide, rfl, by rw [show (preC p q 2).length = (preC p q 1).length + 4 by simp [preC, HQ.out]]; exact hown2, HBW.out.grown hgr2 HBW.out.size (own_base HOW.out)⟩
          case measure => simp [intOf]
        · have hown := HOW.out
          rw [preC_len p q HP.out HQ.out 2 (by decide)] at hown
          have HOW2 := Lib.hid hown
          clear hown
          rw [show ((2 : Nat) : Int) = 2 from rfl]
          go_wp2_with fail
          go_ret
          exact ⟨_, rfl, HOW2.out, HBW.out⟩

end Go.Proofs.Ytlhbipommhljiaa
