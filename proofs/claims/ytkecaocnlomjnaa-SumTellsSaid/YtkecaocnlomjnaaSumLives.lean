/- lives: sums that the document tells. -/
import Derived.Test.YtkecaocnlomjnaaSum2
import Derived.Lib.SmallJoins
import Derived.Lib.SlBytesConst
namespace Go.Proofs.Ytkecaocnlomjnaa
open Go.RowKit Go.Shelf
set_option linter.unusedVariables false

theorem of0 (w : World) : Calls Try.prog 12 #[.slice none 0 0] w fun e w' => e = .returned (.int .u32 2166136261) ∧ w = w' := by
  have h := Of_any [] none 0 w (by decide) (.inl rfl)
  rw [show ofN [] = 2166136261 from rfl] at h
  exact h
theorem take01 (w : World) : Calls Try.prog 8 #[.int .u32 0, .int .u8 1] w fun e w' => e = .returned (.int .u32 16777619) ∧ w = w' := by
  have h := Take_any 0 1 (by decide) (by decide) w
  rw [show takeN 0 1 = 16777619 by decide +kernel] at h
  exact h
theorem ofa (w : World) : Calls Try.prog 12 #[.slice (some ⟨w.heap.size, 0, none⟩) 1 1] (w.alloc (.cells #[.int .u8 97] 5 (1, 2))) fun e W' => e = .returned (.int .u32 3826002220) ∧ Below w.heap.size w W' := by
  have h := Of_any [97] (some ⟨w.heap.size, 0, none⟩) 1 (w.alloc (.cells #[.int .u8 97] 5 (1, 2))) (by decide) (.inr ⟨_, 0, rfl, fun j hj => by
    rw [World.cell?_alloc_mark]
    match j, hj with
    | 0, _ => rfl⟩)
  rw [show ofN [97] = 3826002220 by decide +kernel] at h
  exact h.mono fun e W' ⟨he, hb⟩ => ⟨he, by rw [← hb]; exact (Below.refl _ _).alloc (Nat.le_refl _) _⟩
theorem take79 (w : World) : Calls Try.prog 8 #[.int .u32 7, .int .u8 9] w fun e w' => e = .returned (.int .u32 234886666) ∧ w = w' := by
  have h := Take_any 7 9 (by decide) (by decide) w
  rw [show takeN 7 9 = 234886666 by decide +kernel] at h
  exact h
theorem back79 (w : World) : Calls Try.prog 14 #[.int .u32 234886666, .int .u8 9] w fun e w' => e = .returned (.int .u32 7) ∧ w = w' := by
  have h := Back_any 234886666 9 (by decide) (by decide) w
  rw [show backN 234886666 9 = 7 by decide +kernel] at h
  exact h

set_option maxHeartbeats 1000000 in
theorem lives_any (w : World) : Calls Try.prog 17 #[] w fun e W' => e = .returned (.bool true) ∧ Below w.heap.size w W' := by
  have kc := fun (w : World) (C : Array Value) (n c : Nat) => Lib.run_convert_bytes_const (P := Try.prog) w 23 5 C n c Try.underlying23 Try.underlying5
  go_enter Try.func17, Try.ntmps17
  go_wp2_with fail
  refine (of0 _).mono ?_
  rintro e _ ⟨rfl, rfl⟩
  go_wp2_with fail
  refine (take01 _).mono ?_
  rintro e _ ⟨rfl, rfl⟩
  go_wp2_with fail
  refine (ofa _).mono ?_
  rintro e w1 ⟨rfl, hb1⟩
  go_wp2_with fail
  refine (take79 _).mono ?_
  rintro e _ ⟨rfl, rfl⟩
  go_wp2_with fail
  refine (back79 _).mono ?_
  rintro e _ ⟨rfl, rfl⟩
  go_wp2_with fail
  go_ret
  exact ⟨rfl, hb1⟩

end Go.Proofs.Ytkecaocnlomjnaa
