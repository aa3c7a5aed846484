/- Of no disk, and of no journal, all is refused, or nothing: the law's walk. -/
import Derived.Test.YtdjjlhfgfogdeaaJourDK
namespace Go.Proofs.Ytdjjlhfgfogdeaa
open Go.RowKit Go.Shelf
set_option linter.unusedVariables false
set_option maxRecDepth 100000
set_option linter.unusedSimpArgs false

theorem Make_none {w : World} {a : Option Addr} (h : NoDisk w a) (v : Value) : Calls Try.prog 7 #[.pointer a, v] w fun e w' => e = .returned (.tuple #[.pointer none, .int .i64 1]) ∧ w = w' := by
  have hr := refusedJ_none h
  clear h
  go_enter Try.func7, Try.ntmps7
  go_wp2_with fail
  refine hr.mono ?_
  rintro e w' ⟨rfl, rfl⟩
  go_wp2_with fail
  go_ret2
  exact ⟨rfl, rfl⟩
theorem Open_none {w : World} {a : Option Addr} (h : NoDisk w a) : Calls Try.prog 13 #[.pointer a] w fun e w' => e = .returned (.tuple #[.pointer none, .int .i64 1]) ∧ w = w' := by
  have hr := refusedJ_none h
  clear h
  go_enter Try.func13, Try.ntmps13
  go_wp2_with fail
  refine hr.mono ?_
  rintro e w' ⟨rfl, rfl⟩
  go_wp2_with fail
  go_ret2
  exact ⟨rfl, rfl⟩
/-- no journal: none, or one of 0s -/
def NoJ (w : World) (a : Option Addr) : Prop := a = none ∨ ∃ z, a = some ⟨z, 0, none⟩ ∧ w.cell? ⟨z, 0, none⟩ = some (.pointer none)
theorem NoJ.calls {w : World} {a : Option Addr} (h : NoJ w a) : Calls Try.prog 31 #[.pointer a] w fun e w' => e = .returned (.bool true) ∧ w = w' := by
  rcases h with rfl | ⟨z, rfl, hc⟩
  · exact isNoneJ_nil w
  · exact isNoneJ_zero z w hc
theorem Append_none {w : World} {a : Option Addr} (h : NoJ w a) (v : Value) : Calls Try.prog 11 #[.pointer a, v] w fun e w' => e = .returned (.int .i64 1) ∧ w = w' := by
  have hr := h.calls
  clear h
  go_enter Try.func11, Try.ntmps11
  go_wp2_with fail
  refine hr.mono ?_
  rintro e w' ⟨rfl, rfl⟩
  go_wp2_with fail
  go_ret
  exact ⟨rfl, rfl⟩
theorem Replace_none {w : World} {a : Option Addr} (h : NoJ w a) (v : Value) : Calls Try.prog 10 #[.pointer a, v] w fun e w' => e = .returned (.int .i64 1) ∧ w = w' := by
  have hr := h.calls
  clear h
  go_enter Try.func10, Try.ntmps10
  go_wp2_with fail
  refine hr.mono ?_
  rintro e w' ⟨rfl, rfl⟩
  go_wp2_with fail
  go_ret
  exact ⟨rfl, rfl⟩
theorem Room_none {w : World} {a : Option Addr} (h : NoJ w a) : Calls Try.prog 19 #[.pointer a] w fun e w' => e = .returned (.int .i64 0) ∧ w = w' := by
  have hr := h.calls
  clear h
  go_enter Try.func19, Try.ntmps19
  go_wp2_with fail
  refine hr.mono ?_
  rintro e w' ⟨rfl, rfl⟩
  go_wp2_with fail
  go_ret
  exact ⟨rfl, rfl⟩
theorem Next_none {w : World} {a : Option Addr} (h : NoJ w a) : Calls Try.prog 20 #[.pointer a] w fun e w' => e = .returned (.int .u32 0) ∧ w = w' := by
  have hr := h.calls
  clear h
  go_enter Try.func20, Try.ntmps20
  go_wp2_with fail
  refine hr.mono ?_
  rintro e w' ⟨rfl, rfl⟩
  go_wp2_with fail
  go_ret
  exact ⟨rfl, rfl⟩
theorem Batches_none {w : World} {a : Option Addr} (h : NoJ w a) : Calls Try.prog 14 #[.pointer a] w fun e w' => e = .returned (.slice none 0 0) ∧ w = w' := by
  have hr := h.calls
  clear h
  go_enter Try.func14, Try.ntmps14
  go_wp2_with fail
  refine hr.mono ?_
  rintro e w' ⟨rfl, rfl⟩
  go_wp2_with fail
  go_ret
  exact ⟨rfl, rfl⟩
set_option maxHeartbeats 4000000 in
theorem nil_walk (A : Option Addr) (n c : Nat) (z : Bool) (w : World) : Calls Try.prog 5 #[.slice A n c, .bool z] w fun e w' => e = .returned (.bool true) ∧ Below w.heap.size w w' := by
  cases z with
  | false =>
    have d0 : NoDisk w none := .inl rfl
    have j0 : NoJ w none := .inl rfl
    have k1 := Make_none d0 (.slice A n c)
    have k2 := Open_none d0
    have k3 := Append_none j0 (.slice A n c)
    have k4 := Replace_none j0 (.slice A n c)
    have k5 := Room_none j0
    have k6 := Next_none j0
    have k7 := Batches_none j0
    have k8 := lives_any w
    clear d0 j0
    go_enter Try.func5, Try.ntmps5
    go_wp2_with fail
    refine k1.mono ?_
    rintro e w' ⟨rfl, rfl⟩
    go_wp2_with fail
    refine k2.mono ?_
    rintro e w' ⟨rfl, rfl⟩
    go_wp2_with fail
    refine k3.mono ?_
    rintro e w' ⟨rfl, rfl⟩
    go_wp2_with fail
    refine k4.mono ?_
    rintro e w' ⟨rfl, rfl⟩
    go_wp2_with fail
    refine k5.mono ?_
    rintro e w' ⟨rfl, rfl⟩
    go_wp2_with fail
    refine k6.mono ?_
    rintro e w' ⟨rfl, rfl⟩
    go_wp2_with fail
    refine k7.mono ?_
    rintro e w' ⟨rfl, rfl⟩
    go_wp2_with fail
    refine k8.mono ?_
    rintro e w' ⟨rfl, hb⟩
    have HB := Lib.hid hb
    clear hb
    go_wp2_with fail
    go_ret
    exact ⟨rfl, HB.out⟩
  | true =>
    go_enter Try.func5, Try.ntmps5
    go_wp2_with fail
    have kd := Cs.new w 50 #[.int .i64 0, .map none, .map none, .slice none 0 0, .int .i64 0, .int .i64 0, .bool false]
    have b1 := (Below.refl w.heap.size w).alloc (Nat.le_refl _) (.cells #[.int .i64 0, .map none, .map none, .slice none 0 0, .int .i64 0, .int .i64 0, .bool false] 50)
    have s1 : (w.alloc (.cells #[.int .i64 0, .map none, .map none, .slice none 0 0, .int .i64 0, .int .i64 0, .bool false] 50)).heap.size = w.heap.size + 1 := by simp
    generalize w.alloc (.cells #[.int .i64 0, .map none, .map none, .slice none 0 0, .int .i64 0, .int .i64 0, .bool false] 50) = w1 at *
    have kj := Cs.new w1 56 #[.pointer none, .int .i64 0, .slice none 0 0, .int .i64 0, .int .u32 0, .int .u64 0]
    have b2 := (Below.refl w1.heap.size w1).alloc (Nat.le_refl _) (.cells #[.pointer none, .int .i64 0, .slice none 0 0, .int .i64 0, .int .u32 0, .int .u64 0] 56)
    rw [s1] at kj
    generalize w1.alloc (.cells #[.pointer none, .int .i64 0, .slice none 0 0, .int .i64 0, .int .u32 0, .int .u64 0] 56) = w2 at *
    have d0 : NoDisk w2 (some ⟨w.heap.size, 0, none⟩) := .inr ⟨_, rfl, (kd.below b2 kd.lt).cell 0 rfl⟩
    have j0 : NoJ w2 (some ⟨w.heap.size + 1, 0, none⟩) := .inr ⟨_, rfl, kj.cell 0 rfl⟩
    have B2 := Lib.hid (below_chain b1 b2)
    have k1 := Make_none d0 (.slice A n c)
    have k2 := Open_none d0
    have k3 := Append_none j0 (.slice A n c)
    have k4 := Replace_none j0 (.slice A n c)
    have k5 := Room_none j0
    have k6 := Next_none j0
    have k7 := Batches_none j0
    have k8 := lives_any w2
    clear d0 j0 kd b1 s1 kj b2
    refine k1.mono ?_
    rintro e w' ⟨rfl, rfl⟩
    go_wp2_with fail
    refine k2.mono ?_
    rintro e w' ⟨rfl, rfl⟩
    go_wp2_with fail
    refine k3.mono ?_
    rintro e w' ⟨rfl, rfl⟩
    go_wp2_with fail
    refine k4.mono ?_
    rintro e w' ⟨rfl, rfl⟩
    go_wp2_with fail
    refine k5.mono ?_
    rintro e w' ⟨rfl, rfl⟩
    go_wp2_with fail
    refine k6.mono ?_
    rintro e w' ⟨rfl, rfl⟩
    go_wp2_with fail
    refine k7.mono ?_
    rintro e w' ⟨rfl, rfl⟩
    go_wp2_with fail
    refine k8.mono ?_
    rintro e w' ⟨rfl, hb⟩
    have HB := Lib.hid hb
    clear hb
    go_wp2_with fail
    go_ret
    exact ⟨rfl, below_chain B2.out HB.out⟩

end Go.Proofs.Ytdjjlhfgfogdeaa
