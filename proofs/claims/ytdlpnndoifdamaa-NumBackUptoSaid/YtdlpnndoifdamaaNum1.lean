/- The leaves of package num and of its reference: sizes, places, padding, sums, bits. -/
import Derived.Test.YtdlpnndoifdamaaRows
import Derived.WalkKit
import Derived.WalkSpells
import Derived.WalkLawsBesides
import Derived.Outline
import Derived.Lib.Hide
import Derived.Laws.Externs
namespace Go.Proofs.Ytdlpnndoifdamaa
open Go.RowKit
set_option linter.unusedVariables false

/-- is it a size? -/
def sizeB (s : Int) : Bool := s == 1 || s == 2 || s == 4 || s == 8

theorem isSize_any (s : Int) (w : World) : Calls Try.prog 22 #[.int .i64 s] w fun e w' => e = .returned (.bool (sizeB s)) ∧ w = w' := by
  by_cases h1 : s = 1
  · subst h1
    go_enter Try.func22, Try.ntmps22
    go_wp2
    go_ret
    exact ⟨rfl, rfl⟩
  by_cases h2 : s = 2
  · subst h2
    go_enter Try.func22, Try.ntmps22
    go_wp2
    go_ret
    exact ⟨rfl, rfl⟩
  by_cases h4 : s = 4
  · subst h4
    go_enter Try.func22, Try.ntmps22
    go_wp2
    go_ret
    exact ⟨rfl, rfl⟩
  by_cases h8 : s = 8
  · subst h8
    go_enter Try.func22, Try.ntmps22
    go_wp2
    go_ret
    exact ⟨rfl, rfl⟩
  have b1 : (s == 1) = false := by simpa using h1
  have b2 : (s == 2) = false := by simpa using h2
  have b4 : (s == 4) = false := by simpa using h4
  have b8 : (s == 8) = false := by simpa using h8
  have hs : sizeB s = false := by simp [sizeB, b1, b2, b4, b8]
  rw [hs]
  clear hs
  go_enter Try.func22, Try.ntmps22
  go_wp2
  go_ret
  exact ⟨rfl, rfl⟩

theorem size_ref (s : Int) (w : World) : Calls Try.prog 25 #[.int .i64 s] w fun e w' => e = .returned (.bool (sizeB s)) ∧ w = w' := by
  by_cases h1 : s = 1
  · subst h1
    go_enter Try.func25, Try.ntmps25
    go_wp2
    go_ret
    exact ⟨rfl, rfl⟩
  by_cases h2 : s = 2
  · subst h2
    go_enter Try.func25, Try.ntmps25
    go_wp2
    go_ret
    exact ⟨rfl, rfl⟩
  by_cases h4 : s = 4
  · subst h4
    go_enter Try.func25, Try.ntmps25
    go_wp2
    go_ret
    exact ⟨rfl, rfl⟩
  by_cases h8 : s = 8
  · subst h8
    go_enter Try.func25, Try.ntmps25
    go_wp2
    go_ret
    exact ⟨rfl, rfl⟩
  have b1 : (s == 1) = false := by simpa using h1
  have b2 : (s == 2) = false := by simpa using h2
  have b4 : (s == 4) = false := by simpa using h4
  have b8 : (s == 8) = false := by simpa using h8
  have hs : sizeB s = false := by simp [sizeB, b1, b2, b4, b8]
  rw [hs]
  clear hs
  go_enter Try.func25, Try.ntmps25
  go_wp2
  go_ret
  exact ⟨rfl, rfl⟩

/-- is it a place of a list of that length? -/
def placeB (n : Nat) (at' : Int) : Bool := decide (0 ≤ at') && decide (at' ≤ (n : Int))

theorem isPlace_any (A : Option Addr) (n c : Nat) (i : Int) (w : World) (hn : n ≤ maxLen) : Calls Try.prog 26 #[.slice A n c, .int .i64 i] w fun e w' => e = .returned (.bool (placeB n i)) ∧ w = w' := by
  unfold maxLen at hn
  by_cases h0 : 0 ≤ i
  · by_cases h1 : i ≤ (n : Int)
    · have hs : placeB n i = true := by simp [placeB, h0, h1]
      rw [hs]
      clear hs
      go_enter Try.func26, Try.ntmps26
      go_wp2
      go_ret
      exact ⟨rfl, rfl⟩
    · have hs : placeB n i = false := by simp [placeB, h0, h1]
      rw [hs]
      clear hs
      have h1' : decide (i ≤ (n : Int)) = false := by simpa using h1
      go_enter Try.func26, Try.ntmps26
      go_wp2
      go_ret
      exact ⟨rfl, rfl⟩
  · have hs : placeB n i = false := by simp [placeB, h0]
    rw [hs]
    clear hs
    have h0' : decide (0 ≤ i) = false := by simpa using h0
    go_enter Try.func26, Try.ntmps26
    go_wp2
    go_ret
    exact ⟨rfl, rfl⟩

/-- the padding behind n -/
def padI (n : Int) : Int := if n < 0 then 0 else (4 - n % 4) % 4

theorem Pad_any (n : Int) (hn : n ≤ 9223372036854775807) (w : World) : Calls Try.prog 15 #[.int .i64 n] w fun e w' => e = .returned (.int .i64 (padI n)) ∧ w = w' := by
  by_cases h0 : n < 0
  · have hs : padI n = 0 := by simp [padI, h0]
    rw [hs]
    clear hs
    go_enter Try.func15, Try.ntmps15
    go_wp2
    go_ret
    exact ⟨rfl, rfl⟩
  · have h0' : 0 ≤ n := by omega
    have hs : padI n = (4 - n % 4) % 4 := by simp [padI, h0]
    rw [hs]
    clear hs h0
    go_enter Try.func15, Try.ntmps15
    go_wp2
    go_ret
    exact ⟨rfl, rfl⟩

theorem Pad_ref (n : Int) (hn : n ≤ 9223372036854775807) (w : World) : Calls Try.prog 16 #[.int .i64 n] w fun e w' => e = .returned (.int .i64 (padI n)) ∧ w = w' := by
  by_cases h0 : n < 0
  · have hs : padI n = 0 := by simp [padI, h0]
    rw [hs]
    clear hs
    go_enter Try.func16, Try.ntmps16
    go_wp2
    go_ret
    exact ⟨rfl, rfl⟩
  · have h0' : 0 ≤ n := by omega
    have h0'' : decide (n < 0) = false := by simpa using h0
    by_cases h4 : n % 4 = 0
    · have hs : padI n = 0 := by simp [padI, h0, h4]
      rw [hs]
      have h4' : (n % 4 == 0) = true := by simpa using h4
      clear hs h0 h4
      go_enter Try.func16, Try.ntmps16
      go_wp2
      go_ret
      exact ⟨rfl, rfl⟩
    · have hs : padI n = 4 - n % 4 := by simp only [padI, h0, if_false]; omega
      rw [hs]
      have h4' : (n % 4 == 0) = false := by simpa using h4
      clear hs h0 h4
      go_enter Try.func16, Try.ntmps16
      go_wp2
      go_ret
      exact ⟨rfl, rfl⟩

/-- math/bits.Add64, at the carry 0: the model's own entry. -/
theorem add64_0 (x y : Int) (hx : 0 ≤ x) (hy : 0 ≤ y) (w : World) : (callFunc 27 #[.int .u64 x, .int .u64 y, .int .u64 0]).run Try.prog w =
    .ok (.value (.tuple #[.int .u64 ((x + y) % 18446744073709551616), .int .u64 ((x + y) / 18446744073709551616)])) w := by
  rw [run_callFunc_extern Try.func27 (by kernel_rfl) (by kernel_rfl) (by kernel_rfl) (e := add64Entry) (by kernel_rfl), run_add64 x y 0 hx hy (by omega) (by omega)]
  simp only [Result.andThen, Int.add_zero]

/-- the sum of two numbers of 64 bits, and whether they hold it -/
def addV (a b : Int) : Value := if a + b < 18446744073709551616 then .tuple #[.int .u64 (a + b), .bool true] else .tuple #[.int .u64 0, .bool false]

theorem Add_any (a b : Int) (ha : 0 ≤ a) (hb : 0 ≤ b) (ha' : a ≤ 18446744073709551615) (hb' : b ≤ 18446744073709551615) (w : World) :
    Calls Try.prog 12 #[.int .u64 a, .int .u64 b] w fun e w' => e = .returned (addV a b) ∧ w = w' := by
  by_cases h : a + b < 18446744073709551616
  · have hs : addV a b = .tuple #[.int .u64 (a + b), .bool true] := by simp only [addV, if_pos h]
    rw [hs]
    have e1 : (a + b) % 18446744073709551616 = a + b := by omega
    have e2 : (a + b) / 18446744073709551616 = 0 := by omega
    have A := add64_0 a b ha hb
    rw [e1, e2] at A
    clear hs e1 e2
    go_enter Try.func12, Try.ntmps12
    go_wp2_with (simp only [A])
    go_ret2
    exact ⟨rfl, rfl⟩
  · have hs : addV a b = .tuple #[.int .u64 0, .bool false] := by simp only [addV, if_neg h]
    rw [hs]
    have e2 : (a + b) / 18446744073709551616 = 1 := by omega
    have A := add64_0 a b ha hb
    rw [e2] at A
    clear hs e2
    go_enter Try.func12, Try.ntmps12
    go_wp2_with (simp only [A])
    go_ret2
    exact ⟨rfl, rfl⟩

theorem Add_ref (a b : Int) (ha : 0 ≤ a) (hb : 0 ≤ b) (ha' : a ≤ 18446744073709551615) (hb' : b ≤ 18446744073709551615) (w : World) :
    Calls Try.prog 13 #[.int .u64 a, .int .u64 b] w fun e w' => e = .returned (addV a b) ∧ w = w' := by
  by_cases h : a + b < 18446744073709551616
  · have hs : addV a b = .tuple #[.int .u64 (a + b), .bool true] := by simp only [addV, if_pos h]
    rw [hs]
    have h1 : a ≤ 18446744073709551615 - b := by omega
    clear hs h
    go_enter Try.func13, Try.ntmps13
    go_wp2
    go_ret2
    exact ⟨rfl, rfl⟩
  · have hs : addV a b = .tuple #[.int .u64 0, .bool false] := by simp only [addV, if_neg h]
    rw [hs]
    have h1 : 18446744073709551615 - b < a := by omega
    clear hs h
    go_enter Try.func13, Try.ntmps13
    go_wp2
    go_ret2
    exact ⟨rfl, rfl⟩

end Go.Proofs.Ytdlpnndoifdamaa
