/- The leaves of package num: sizes, places. -/
import Derived.Laws.Externs
import Derived.Test.YtlhbipommhljiaaWords
namespace Go.Proofs.Ytlhbipommhljiaa
open Go.RowKit Go.Shelf
set_option linter.unusedVariables false

/-- is it a size? -/
def sizeB (s : Int) : Bool := s == 1 || s == 2 || s == 4 || s == 8
theorem isSize_any (s : Int) (w : World) : Calls Try.prog 40 #[.int .i64 s] w fun e w' => e = .returned (.bool (sizeB s)) ∧ w = w' := by
  by_cases h1 : s = 1
  · subst h1
    go_enter Try.func40, Try.ntmps40
    go_wp2
    go_ret
    exact ⟨rfl, rfl⟩
  by_cases h2 : s = 2
  · subst h2
    go_enter Try.func40, Try.ntmps40
    go_wp2
    go_ret
    exact ⟨rfl, rfl⟩
  by_cases h4 : s = 4
  · subst h4
    go_enter Try.func40, Try.ntmps40
    go_wp2
    go_ret
    exact ⟨rfl, rfl⟩
  by_cases h8 : s = 8
  · subst h8
    go_enter Try.func40, Try.ntmps40
    go_wp2
    go_ret
    exact ⟨rfl, rfl⟩
  have b1 : (s == 1) = false := by simpa using h1
  have b2 : (s == 2) = false := by simpa using h2
  have b4 : (s == 4) = false := by simpa using h4
  have b8 : (s == 8) = false := by simpa using h8
  have hs : sizeB s = false := by simp [sizeB, b1, b2, b4, b8]
  rw [hs]
  clear hs
  go_enter Try.func40, Try.ntmps40
  go_wp2
  go_ret
  exact ⟨rfl, rfl⟩
theorem size_ref (s : Int) (w : World) : Calls Try.prog 36 #[.int .i64 s] w fun e w' => e = .returned (.bool (sizeB s)) ∧ w = w' := by
  by_cases h1 : s = 1
  · subst h1
    go_enter Try.func36, Try.ntmps36
    go_wp2
    go_ret
    exact ⟨rfl, rfl⟩
  by_cases h2 : s = 2
  · subst h2
    go_enter Try.func36, Try.ntmps36
    go_wp2
    go_ret
    exact ⟨rfl, rfl⟩
  by_cases h4 : s = 4
  · subst h4
    go_enter Try.func36, Try.ntmps36
    go_wp2
    go_ret
    exact ⟨rfl, rfl⟩
  by_cases h8 : s = 8
  · subst h8
    go_enter Try.func36, Try.ntmps36
    go_wp2
    go_ret
    exact ⟨rfl, rfl⟩
  have b1 : (s == 1) = false := by simpa using h1
  have b2 : (s == 2) = false := by simpa using h2
  have b4 : (s == 4) = false := by simpa using h4
  have b8 : (s == 8) = false := by simpa using h8
  have hs : sizeB s = false := by simp [sizeB, b1, b2, b4, b8]
  rw [hs]
  clear hs
  go_enter Try.func36, Try.ntmps36
  go_wp2
  go_ret
  exact ⟨rfl, rfl⟩
/-- is it a place of a list of that length? -/
def placeB (n : Nat) (at' : Int) : Bool := decide (0 ≤ at') && decide (at' ≤ (n : Int))
theorem isPlace_any (A : Option Addr) (n c : Nat) (i : Int) (w : World) (hn : n ≤ maxLen) : Calls Try.prog 45 #[.slice A n c, .int .i64 i] w fun e w' => e = .returned (.bool (placeB n i)) ∧ w = w' := by
  unfold maxLen at hn
  by_cases h0 : 0 ≤ i
  · by_cases h1 : i ≤ (n : Int)
    · have hs : placeB n i = true := by simp [placeB, h0, h1]
      rw [hs]
      clear hs
      go_enter Try.func45, Try.ntmps45
      go_wp2
      go_ret
      exact ⟨rfl, rfl⟩
    · have hs : placeB n i = false := by simp [placeB, h0, h1]
      rw [hs]
      clear hs
      have h1' : decide (i ≤ (n : Int)) = false := by simpa using h1
      go_enter Try.func45, Try.ntmps45
      go_wp2
      go_ret
      exact ⟨rfl, rfl⟩
  · have hs : placeB n i = false := by simp [placeB, h0]
    rw [hs]
    clear hs
    have h0' : decide (0 ≤ i) = false := by simpa using h0
    go_enter Try.func45, Try.ntmps45
    go_wp2
    go_ret
    exact ⟨rfl, rfl⟩

end Go.Proofs.Ytlhbipommhljiaa
