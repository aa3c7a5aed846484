/- The document's answer for layer 5: tag, inner, sum, Get, Greatest. -/
import Derived.Test.YtlhbipommhljiaaSealGet
import Derived.Test.YtlhbipommhljiaaNPutRef
import Derived.Test.YtlhbipommhljiaaRef00
import Derived.Test.YtlhbipommhljiaaAnyS
import Derived.BigFrame
namespace Go.Proofs.Ytlhbipommhljiaa
open Go.RowKit Go.Shelf
set_option linter.unusedVariables false
set_option linter.unusedSimpArgs false

theorem getV_tag (x : Blk) (hx : x.length = 64) (q : Nat) (hq : q < 4) : getV x ((16 * q : Nat) : Int) 4 = .tuple #[.int .u64 (tag x q), .int .i64 0] := by
  unfold getV
  rw [if_neg (by simp [sizeB, placeB]; omega), if_neg (by rw [hx]; omega), tag_seg]
  simp only [Int.toNat_natCast]
  rfl
theorem tagRef_any (x : Blk) (hx : x.length = 64) (q : Nat) (hq : q < 4) (w : World) : Calls Try.prog 28 #[bv x, .int .i64 (q : Int)] w fun e w' => e = .returned (.int .u32 (tag x q)) ∧ Below w.heap.size w w' := by
  have hget := fun g W h => GetRef_any x (some ⟨g, 0, none⟩) 64 ((16 * q : Nat) : Int) 4 W (by rw [hx]; decide) (by rw [hx]; exact Nat.le_refl _) h
  rw [getV_tag x hx q hq, hx] at hget
  obtain ⟨h0, h1⟩ := tag_bd x q
  have hw : IntKind.u32.wrap (tag x q) = tag x q := by rw [IntKind.wrap_u32]; omega
  have hm : IntKind.i64.wrap (16 * (q : Int)) = ((16 * q : Nat) : Int) := by rw [IntKind.wrap_i64]; omega
  have hq' : (q : Int) < 4 := by omega
  have HX := Lib.hid hx
  generalize tag x q = n at *
  generalize h16 : ((16 * q : Nat) : Int) = s at *
  have e16 : 16 * (q : Int) = s := by omega
  clear hx hq h16
  go_enter Try.func28, Try.ntmps28
  go_wp2_with (first
    | (refine wpList_box_blk rfl (.tmp 0) rfl x rfl ?_; intro g1 w1 hk hb hg; go_frame; have K1 := Lib.hid hk; have B1 := Lib.hid hb; clear hk hb hg))
  have R1 := Lib.hid (show Rd w1 (some ⟨g1, 0, none⟩) x by have := rd_part K1.out 0 64; rw [List.drop_zero, List.take_of_length_le (by rw [HX.out]; exact Nat.le_refl _)] at this; exact this)
  refine (hget _ _ R1.out).mono ?_
  clear hget R1
  rintro e _ ⟨rfl, rfl⟩
  go_wp2_with fail
  go_ret
  exact ⟨rfl, B1.out⟩
set_option maxHeartbeats 1000000 in
theorem innerRef_any (x : Blk) (hx : x.length = 64) (w : World) : Calls Try.prog 29 #[bv x] w fun e w' => ∃ g cap, e = .returned (.slice (some ⟨g, 0, none⟩) 48 cap) ∧ 48 ≤ cap ∧ cap ≤ 9223372036854775807 ∧ Rd w' (some ⟨g, 0, none⟩) (inner x) ∧ Below w.heap.size w w' := by
  have HX := Lib.hid hx
  have hcl := Lib.hid (cutOf_len x hx)
  clear hx
  go_enter Try.func29, Try.ntmps29
  go_wp2_with (first
    | (refine wpList_box_blk rfl (.tmp 0) rfl x rfl ?_; intro g1 w1 hk hb hg; go_frame; have K1 := Lib.hid hk; have B1 := Lib.hid hb; clear hk hb hg))
  go_loopw [3, 4] (fun v c wr => ∃ k : Nat, k ≤ 4 ∧ c = .int .i64 k ∧ wr.ownsRow w.heap.size 5 1 v (12 * k) (cellsOf (innerTo x k)) ∧ BlkI w g1 x wr) (fun _ c _ => 4 - (intOf c).toNat)
  case atStart => exact ⟨0, by decide, rfl, World.ownsRow_nil _ _ _ _, K1.out, B1.out⟩
  case round =>
    obtain ⟨k, hk, rfl, hown, hI⟩ := hrel
    have HI := Lib.hid hI
    have HO := Lib.hid hown
    clear hI hown K1 B1
    by_cases hk4 : k < 4
    · rcases (show k = 0 ∨ k = 1 ∨ k = 2 ∨ k = 3 by omega) with rfl | rfl | rfl | rfl
      · have RI := Lib.hid (rd_inner HI.out.1 0)
        have hct := Lib.hid (hcl.out 0 (by decide))
        have HS := Lib.hid (innerTo_succ x 0)
        generalize hit : innerTo x 0 = it at *
        generalize cutOf x 0 = ct at *
        clear hit
        go_wp2_with (at_builtin; refine append_rd rfl (.tmp 9) (.tmp 16) rfl w.heap.size _ _ _ rfl HO.out _ ct 12 60 hct.out.symm rfl RI.out (by intro h; cases h) (by decide) HI.out.2.size ?_; intro v2 w6 hown6 hgr6)
        go_roundw
        case rel => exact ⟨1, by decide, rfl, by rw [HS.out]; exact hown6, BlkI.grown (B := 0) HI.out hgr6 (own_base HO.out) (own_ne_blk HO.out HI.out.1)⟩
        case measure => simp [intOf]
      · have RI := Lib.hid (rd_inner HI.out.1 1)
        have hct := Lib.hid (hcl.out 1 (by decide))
        have HS := Lib.hid (innerTo_succ x 1)
        generalize hit : innerTo x 1 = it at *
        generalize cutOf x 1 = ct at *
        clear hit
        go_wp2_with (at_builtin; refine append_rd rfl (.tmp 9) (.tmp 16) rfl w.heap.size _ _ _ rfl HO.out _ ct 12 44 hct.out.symm rfl RI.out (by intro h; cases h) (by decide) HI.out.2.size ?_; intro v2 w6 hown6 hgr6)
        go_roundw
        case rel => exact ⟨2, by decide, rfl, by rw [HS.out]; exact hown6, BlkI.grown (B := 0) HI.out hgr6 (own_base HO.out) (own_ne_blk HO.out HI.out.1)⟩
        case measure => simp [intOf]
      · have RI := Lib.hid (rd_inner HI.out.1 2)
        have hct := Lib.hid (hcl.out 2 (by decide))
        have HS := Lib.hid (innerTo_succ x 2)
        generalize hit : innerTo x 2 = it at *
        generalize cutOf x 2 = ct at *
        clear hit
        go_wp2_with (at_builtin; refine append_rd rfl (.tmp 9) (.tmp 16) rfl w.heap.size _ _ _ rfl HO.out _ ct 12 28 hct.out.symm rfl RI.out (by intro h; cases h) (by decide) HI.out.2.size ?_; intro v2 w6 hown6 hgr6)
        go_roundw
        case rel => exact ⟨3, by decide, rfl, by rw [HS.out]; exact hown6, BlkI.grown (B := 0) HI.out hgr6 (own_base HO.out) (own_ne_blk HO.out HI.out.1)⟩
        case measure => simp [intOf]
      · have RI := Lib.hid (rd_inner HI.out.1 3)
        have hct := Lib.hid (hcl.out 3 (by decide))
        have HS := Lib.hid (innerTo_succ x 3)
        generalize hit : innerTo x 3 = it at *
        generalize cutOf x 3 = ct at *
        clear hit
        go_wp2_with (at_builtin; refine append_rd rfl (.tmp 9) (.tmp 16) rfl w.heap.size _ _ _ rfl HO.out _ ct 12 12 hct.out.symm rfl RI.out (by intro h; cases h) (by decide) HI.out.2.size ?_; intro v2 w6 hown6 hgr6)
        go_roundw
        case rel => exact ⟨4, by decide, rfl, by rw [HS.out]; exact hown6, BlkI.grown (B := 0) HI.out hgr6 (own_base HO.out) (own_ne_blk HO.out HI.out.1)⟩
        case measure => simp [intOf]
    · obtain rfl : k = 4 := by omega
      rw [show ((4 : Nat) : Int) = 4 from rfl]
      have hown := HO.out
      rw [show 12 * 4 = 48 from rfl, innerTo_4] at hown
      obtain ⟨ag, cap, rfl, hcap, hcm⟩ := own_form hown (by decide)
      have RO := Lib.hid (own_rd hown)
      clear hown HO
      go_wp2_with fail
      go_ret
      exact ⟨ag, cap, rfl, hcap, hcm, RO.out, HI.out.2⟩

end Go.Proofs.Ytlhbipommhljiaa
