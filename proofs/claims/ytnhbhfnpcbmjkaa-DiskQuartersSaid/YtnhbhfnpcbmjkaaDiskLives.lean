/- lives: a power that goes as the document tells. -/
import Derived.Test.YtnhbhfnpcbmjkaaDiskV
namespace Go.Proofs.Ytnhbhfnpcbmjkaa
open Go.RowKit Go.Shelf Go.Maps
set_option linter.unusedVariables false
set_option linter.unusedSimpArgs false

theorem full1 (w : World) : Calls Try.prog 26 #[.int .u8 1] w fun e w' => e = .returned (bv (fb 1)) ∧ Below w.heap.size w w' := full_any 1 w
theorem full17 (w : World) : Calls Try.prog 26 #[.int .u8 17] w fun e w' => e = .returned (bv (fb 17)) ∧ Below w.heap.size w w' := full_any 17 w
def s1 : DS := armed (fresh 64) 2
def s2 : DS := wrote s1 0 (fb 17)
def s3 : DS := gone s2
def s4 : DS := crashed s3 [9]
def tornB : Blk := List.replicate 16 17 ++ List.replicate 32 0 ++ List.replicate 16 17
theorem tornB_is : torn zb (fb 17) 9 = tornB := by decide +kernel
theorem read4 : readV s4 0 = tornB := by
  show torn zb (fb 17) 9 = tornB
  exact tornB_is
theorem tornB_len : tornB.length = 64 := by decide
theorem new63 (w : World) : Calls Try.prog 7 #[.int .i64 63] w fun e w' => e = .returned (.tuple #[.pointer none, .int .i64 2]) ∧ w = w' := New_few 63 w (.inl (by decide))
theorem new64 (w : World) : Calls Try.prog 7 #[.int .i64 64] w fun e w' => ∃ d, e = .returned (.tuple #[.pointer (some ⟨d, 0, none⟩), .int .i64 0]) ∧ DiskV w' d (fresh 64) (w.heap.size ≤ ·) ∧ Below w.heap.size w w' := New_v 64 w (by decide) (by decide)
def Grew (w w' : World) (d : Nat) (s : DS) : Prop := DiskV w' d s (w.heap.size ≤ ·) ∧ Below w.heap.size w w'
theorem Grew.of {w W W' : World} {d : Nat} {s s' : DS} (h : Grew w W d s) (hd : DiskV W' d s' (w.heap.size ≤ ·)) (ht : Turn W W' (w.heap.size ≤ ·)) : Grew w W' d s' :=
  ⟨hd, h.2.trans (ht.below h.2.size fun k hk => hk)⟩
theorem Grew.below {w W W' : World} {d : Nat} {s : DS} (h : Grew w W d s) (hb : Below W.heap.size W W') : Grew w W' d s := ⟨h.1.below hb, h.2.trans (hb.mono h.2.size)⟩
theorem Grew.up {w W : World} {d : Nat} {s : DS} (h : Grew w W d s) : ∀ k, W.heap.size ≤ k → w.heap.size ≤ k := fun k hk => Nat.le_trans h.2.size hk
set_option maxHeartbeats 4000000 in
theorem lives_any (w : World) : Calls Try.prog 14 #[] w fun e w' => e = .returned (.bool true) ∧ Below w.heap.size w w' := by
  go_enter Try.func14, Try.ntmps14
  go_wp2_with fail
  refine (new63 _).mono ?_
  rintro e _ ⟨rfl, rfl⟩
  go_wp2_with fail
  refine (new64 _).mono ?_
  rintro e w1 ⟨d, rfl, hd, hb⟩
  have G1 := Lib.hid (show Grew w w1 d (fresh 64) from ⟨hd, hb⟩)
  clear hd hb
  go_wp2_with fail
  refine (full1 _).mono ?_
  rintro e w2 ⟨rfl, hb⟩
  have G2 := Lib.hid (G1.out.below hb)
  clear hb
  go_wp2_with fail
  have c := Write_v G2.out.1 G2.out.up 64 (fb 1) (fb_len 1) (by decide) (by decide)
  rw [show writeE (fresh 64) 64 = 2 from rfl, show writeS (fresh 64) 64 (fb 1) = fresh 64 from rfl] at c
  refine c.mono ?_
  clear c
  rintro e w3 ⟨rfl, hd, ht⟩
  have G3 := Lib.hid (G2.out.of hd ht)
  clear hd ht
  go_wp2_with fail
  have c := Arm_v G3.out.1 G3.out.up 2 (by decide)
  rw [show armE (fresh 64) 2 = 0 from rfl, show armS (fresh 64) 2 = s1 from rfl] at c
  refine c.mono ?_
  clear c
  rintro e w4 ⟨rfl, hd, ht⟩
  have G4 := Lib.hid (G3.out.of hd ht)
  clear hd ht
  go_wp2_with fail
  refine (full17 _).mono ?_
  rintro e w5 ⟨rfl, hb⟩
  have G5 := Lib.hid (G4.out.below hb)
  clear hb
  go_wp2_with fail
  have c := Write_v G5.out.1 G5.out.up 0 (fb 17) (fb_len 17) (by decide) (by decide)
  rw [show writeE s1 0 = 0 from rfl, show writeS s1 0 (fb 17) = s2 from rfl] at c
  refine c.mono ?_
  clear c
  rintro e w6 ⟨rfl, hd, ht⟩
  have G6 := Lib.hid (G5.out.of hd ht)
  clear hd ht
  go_wp2_with fail
  have c := Flush_v G6.out.1 G6.out.up (by decide) (by decide)
  rw [show flushE s2 = 9 from rfl, show flushS s2 = s3 from rfl] at c
  refine c.mono ?_
  clear c
  rintro e w7 ⟨rfl, hd, ht⟩
  have G7 := Lib.hid (G6.out.of hd ht)
  clear hd ht
  go_wp2_with fail
  have c := Steps_v G7.out.1
  rw [show ((s3.steps : Nat) : Int) = 1 from rfl] at c
  refine c.mono ?_
  clear c
  rintro e _ ⟨rfl, rfl⟩
  go_wp2_with fail
  have c := Loose_v G7.out.1
  rw [show ((s3.q.length : Nat) : Int) = 1 from rfl] at c
  refine c.mono ?_
  clear c
  rintro e _ ⟨rfl, rfl⟩
  go_wp2_with fail
  have c := Read_v G7.out.1 0
  rw [show readV s3 0 = zb from rfl, show readE s3 0 = 9 from rfl] at c
  refine c.mono ?_
  clear c
  rintro e w8 ⟨rfl, hb⟩
  have G8 := Lib.hid (G7.out.below hb)
  clear hb
  go_wp2_with (first
    | (refine wpList_alloc_blk rfl rfl ?_; intro g11 w9 hk hb hg; go_frame; have K9 := Lib.hid hk; have H9 := Lib.hid hg; have B9 := Lib.hid hb; clear hk hb hg)
    | (refine wpList_fill_blk rfl (.tmp 11) (.tmp 51) rfl g11 rfl zb rfl zb_len K9.out ?_; intro w10 hk hr; go_frame; have G10 := Lib.hid (G8.out.below (keep_own B9.out hr H9.out)); clear hk hr))
  have G11 := Lib.hid (G10.out.below ((Below.refl _ _).alloc (Nat.le_refl _) (.cells #[.int .i64 9] 3)))
  have c := Crash_v G11.out.1 G11.out.up [9] (some ⟨w10.heap.size, 0, none⟩) 1 (.inr ⟨_, 0, rfl, fun j hj => by
    match j, hj with
    | 0, _ => exact (Cs.new w10 3 #[.int .i64 9]).cell 0 rfl⟩) (by intro x hx; rw [List.mem_singleton.1 hx]; decide) (by decide) (by decide)
  rw [show crashed s3 [9] = s4 from rfl] at c
  refine c.mono ?_
  clear c
  rintro e w12 ⟨rfl, hd, ht⟩
  have G12 := Lib.hid (G11.out.of hd ht)
  clear hd ht
  go_wp2_with fail
  have c := Read_v G12.out.1 0
  rw [read4, show readE s4 0 = 0 from rfl] at c
  refine c.mono ?_
  clear c
  rintro e w13 ⟨rfl, hb⟩
  have G13 := Lib.hid (G12.out.below hb)
  clear hb
  go_wp2_with (first
    | (refine wpList_alloc_blk rfl rfl ?_; intro g14 w14 hk hb hg; go_frame; have K14 := Lib.hid hk; have H14 := Lib.hid hg; have B14 := Lib.hid hb; clear hk hb hg)
    | (refine wpList_fill_blk rfl (.tmp 14) (.tmp 59) rfl g14 rfl tornB rfl tornB_len K14.out ?_; intro w15 hk hr; go_frame; have G15 := Lib.hid (G13.out.below (keep_own B14.out hr H14.out)); have c0 : w15.cell? ⟨g14, 0, none⟩ = some (.int .u8 17) := hk.cell 0 rfl; have c16 : w15.cell? ⟨g14, 16, none⟩ = some (.int .u8 0) := hk.cell 16 rfl; have c32 : w15.cell? ⟨g14, 32, none⟩ = some (.int .u8 0) := hk.cell 32 rfl; have c48 : w15.cell? ⟨g14, 48, none⟩ = some (.int .u8 17) := hk.cell 48 rfl; clear hk hr))
  go_ret
  exact ⟨rfl, G15.out.2⟩

end Go.Proofs.Ytnhbhfnpcbmjkaa
