/- math/bits.Len64 by the shelf; fits. -/
import Derived.Shelf.Strconv.Itoa0
import Derived.Test.YtlhbipommhljiaaN1
namespace Go.Proofs.Ytlhbipommhljiaa
open Go.RowKit Go.Shelf
set_option linter.unusedVariables false

def lays129_ren : Go.Shelf.Ren := ⟨fun | 129 => 46 | n => n, fun | 53 => 49 | 3 => 3 | 4 => 4 | 46 => 57 | 5 => 5 | 9 => 9 | n => n, fun | n => n⟩
theorem lays129 : Go.Proofs.Lays.n129 Try.prog lays129_ren := {
  mixed := by kernel_rfl
  f129 := Try.func46.trans (congrArg some (by kernel_rfl))
  t3 := Try.underlying3
  a3 := Try.isAgg3
  z3 := Try.sizeOf3
  v3 := Try.zeroValue3
  t4 := Try.underlying4
  a4 := Try.isAgg4
  z4 := Try.sizeOf4
  v4 := Try.zeroValue4
  t5 := Try.underlying5
  a5 := Try.isAgg5
  z5 := Try.sizeOf5
  v5 := Try.zeroValue5
  t9 := Try.underlying9
  a9 := Try.isAgg9
  z9 := Try.sizeOf9
  v9 := Try.zeroValue9
  t46 := Try.underlying57
  a46 := Try.isAgg57
  z46 := Try.sizeOf57
  v46 := Try.zeroValue57
  t53 := Try.underlying49
  a53 := Try.isAgg49
  z53 := Try.sizeOf49
  v53 := Try.zeroValue49 }
theorem Len64_any (x : Int) (w : World) (h0 : 0 ≤ x) (h1 : x ≤ 18446744073709551615) :
    Calls Try.prog 46 #[.int .u64 x] w fun e w' => e = .returned (.int .i64 (Lib.bitLen x.toNat)) ∧ w' = w := Any.bits_Len64 lays129 x w h0 h1
theorem bitLenAux_le : ∀ (f x : Nat), Lib.bitLenAux f x ≤ f
  | 0, x => by simp [Lib.bitLenAux]
  | f + 1, x => by
    simp only [Lib.bitLenAux]
    split
    · omega
    · have := bitLenAux_le f (x / 2); omega
theorem bitLen_le_iff (k x : Nat) (hk : k ≤ 64) (hx : x < 2 ^ 64) : Lib.bitLen x ≤ k ↔ x < 2 ^ k := by
  constructor
  · intro h
    apply Nat.lt_of_not_le
    intro h2
    have e := Lib.bitLen_shift k x h2 hx
    have h0 : x / 2 ^ k ≠ 0 := by
      have : 0 < 2 ^ k := Nat.two_pow_pos k
      have := Nat.div_pos h2 this
      omega
    have hlt : x / 2 ^ k < 2 ^ 64 := Nat.lt_of_le_of_lt (Nat.div_le_self _ _) hx
    have e2 := Lib.bitLen_half (x / 2 ^ k) h0 hlt
    omega
  · intro h
    have e := Lib.bitLenAux_fuel k x h 64 hk
    unfold Lib.bitLen
    rw [e]
    exact bitLenAux_le k x
/-- the least number that a size does not hold -/
def lim (s : Int) : Int := if s = 1 then 256 else if s = 2 then 65536 else if s = 4 then 4294967296 else 18446744073709551616
def fitsB (n s : Int) : Bool := decide (n < lim s)
theorem fits_any (n s : Int) (hn : 0 ≤ n) (hn' : n ≤ 18446744073709551615) (hs : sizeB s = true) (w : World) :
    Calls Try.prog 41 #[.int .u64 n, .int .i64 s] w fun e w' => e = .returned (.bool (fitsB n s)) ∧ w = w' := by
  obtain ⟨m, rfl⟩ := Int.eq_ofNat_of_zero_le hn
  have key : ∀ k : Nat, k ≤ 64 → ((Lib.bitLen m : Int) ≤ k ↔ m < 2 ^ k) := fun k hk => by
    rw [← bitLen_le_iff k m hk (by omega)]; omega
  have hlen : (Lib.bitLen m : Int) ≤ 64 := by
    have := bitLenAux_le 64 m
    unfold Lib.bitLen; omega
  have e : decide ((Lib.bitLen m : Int) ≤ 8 * s) = fitsB m s := by
    simp only [sizeB, Bool.or_eq_true, beq_iff_eq] at hs
    unfold fitsB lim
    rcases hs with ((rfl | rfl) | rfl) | rfl
    · have := key 8 (by omega); simp at this ⊢; omega
    · have := key 16 (by omega); simp at this ⊢; omega
    · have := key 32 (by omega); simp at this ⊢; omega
    · simp; omega
  have hs1 : 1 ≤ s ∧ s ≤ 8 := by
    simp only [sizeB, Bool.or_eq_true, beq_iff_eq] at hs
    omega
  obtain ⟨hsl, hsu⟩ := hs1
  rw [← e]
  clear e key
  generalize hb : (Lib.bitLen m : Int) = b
  go_enter Try.func41, Try.ntmps41
  go_wp2_with (go_at_call 46; refine (Len64_any _ _ (by omega) (by omega)).mono ?_; rintro e w' ⟨rfl, rfl⟩; simp only [Int.toNat_natCast, hb])

  go_ret
  exact ⟨rfl, rfl⟩

end Go.Proofs.Ytlhbipommhljiaa
