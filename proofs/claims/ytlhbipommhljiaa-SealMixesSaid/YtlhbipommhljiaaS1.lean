/- Sums of bytes as plain numbers; Take and by. -/
import Derived.Test.YtlhbipommhljiaaWords
import Derived.Laws.BitsAllLaws
namespace Go.Proofs.Ytlhbipommhljiaa
open Go.RowKit Go.Shelf
set_option linter.unusedVariables false

/-- a byte taken in -/
def takeN (s c : Nat) : Nat := (s ^^^ c) * 16777619 % 4294967296
/-- the sum ahead of a byte -/
def backN (s c : Nat) : Nat := s * 899433627 % 4294967296 ^^^ c
theorem xor_lt32 {a b : Nat} (ha : a < 4294967296) (hb : b < 4294967296) : a ^^^ b < 4294967296 := Nat.xor_lt_two_pow (n := 32) ha hb
theorem takeN_lt (s c : Nat) : takeN s c < 4294967296 := Nat.mod_lt _ (by decide)
theorem backN_lt (s c : Nat) (hc : c < 256) : backN s c < 4294967296 := xor_lt32 (Nat.mod_lt _ (by decide)) (by omega)
theorem back_take (s c : Nat) (hs : s < 4294967296) (hc : c < 256) : backN (takeN s c) c = s := by
  unfold backN takeN
  have hx := xor_lt32 (a := s) (b := c) hs (by omega)
  have e : (s ^^^ c) * 16777619 % 4294967296 * 899433627 % 4294967296 = s ^^^ c := by
    generalize s ^^^ c = x at *
    omega
  rw [e, Nat.xor_assoc, Nat.xor_self, Nat.xor_zero]
theorem take_back (s c : Nat) (hs : s < 4294967296) (hc : c < 256) : takeN (backN s c) c = s := by
  unfold backN takeN
  rw [Nat.xor_assoc, Nat.xor_self, Nat.xor_zero]
  omega
/-- all bytes, one behind the other -/
def moreN : Nat → List UInt8 → Nat
  | s, [] => s
  | s, c :: l => moreN (takeN s c.toNat) l
theorem moreN_nil (s : Nat) : moreN s [] = s := rfl
theorem moreN_cons (s : Nat) (c : UInt8) (l : List UInt8) : moreN s (c :: l) = moreN (takeN s c.toNat) l := by rw [moreN]
theorem moreN_append (s : Nat) (p q : List UInt8) : moreN s (p ++ q) = moreN (moreN s p) q := by
  induction p generalizing s with
  | nil => rw [moreN_nil, List.nil_append]
  | cons c p ih => rw [List.cons_append, moreN_cons, moreN_cons, ih]
theorem moreN_lt (s : Nat) (l : List UInt8) (hs : s < 4294967296) : moreN s l < 4294967296 := by
  induction l generalizing s with
  | nil => exact hs
  | cons c l ih => rw [moreN_cons]; exact ih _ (takeN_lt _ _)
theorem moreN_last (s : Nat) (p : List UInt8) (c : UInt8) : moreN s (p ++ [c]) = takeN (moreN s p) c.toNat := by rw [moreN_append, moreN_cons, moreN_nil]
theorem moreN_snoc (s : Nat) (l : List UInt8) (k : Nat) (h : k < l.length) : moreN s (l.take (k + 1)) = takeN (moreN s (l.take k)) l[k].toNat := (congrArg (moreN s) (List.take_succ_eq_append_getElem h)).trans (moreN_last s (l.take k) l[k])
theorem u8_lt (c : UInt8) : c.toNat < 256 := c.toNat_lt
theorem byte_toNat_lt (l : List UInt8) (k : Nat) (h : k < l.length) : l[k].toNat < 256 := u8_lt _
theorem Take_any (s c : Nat) (hs : s < 4294967296) (hc : c < 256) (w : World) : Calls Try.prog 43 #[.int .u32 (s : Int), .int .u8 (c : Int)] w fun e w' => e = .returned (.int .u32 (takeN s c : Nat)) ∧ w = w' := by
  have hx := u32_xor_nat s c hs (by omega)
  have hlt := xor_lt32 (a := s) (b := c) hs (by omega)
  have ht : ((takeN s c : Nat) : Int) = IntKind.u32.wrap (((s ^^^ c : Nat) : Int) * 16777619) := by
    unfold takeN
    rw [IntKind.wrap_u32]
    omega
  rw [ht]
  have h0 : (0 : Int) ≤ s := by omega
  have h1 : (s : Int) ≤ 4294967295 := by omega
  have h2 : (0 : Int) ≤ c := by omega
  have h3 : (c : Int) ≤ 255 := by omega
  clear ht hs hc hlt
  go_enter Try.func43, Try.ntmps43
  go_wp2
  go_ret
  exact ⟨rfl, rfl⟩
theorem by_ref (a b : Nat) (ha : a < 4294967296) (hb : b < 4294967296) (w : World) : Calls Try.prog 48 #[.int .u32 (a : Int), .int .u32 (b : Int)] w fun e w' => e = .returned (.int .u32 ((a * b % 4294967296 : Nat) : Int)) ∧ w = w' := by
  have hp : a * b ≤ 4294967295 * 4294967295 := Nat.mul_le_mul (by omega) (by omega)
  have h64 : ((a : Int) * (b : Int)) ≤ 18446744073709551615 := by rw [← Int.natCast_mul]; omega
  have h00 : 0 ≤ ((a : Int) * (b : Int)) := by rw [← Int.natCast_mul]; omega
  have ht : ((a * b % 4294967296 : Nat) : Int) = (a : Int) * (b : Int) % 4294967296 := by rw [← Int.natCast_mul]; omega
  rw [ht]
  have h0 : (0 : Int) ≤ a := by omega
  have h1 : (a : Int) ≤ 4294967295 := by omega
  have h2 : (0 : Int) ≤ b := by omega
  have h3 : (b : Int) ≤ 4294967295 := by omega
  clear ht ha hb hp
  go_enter Try.func48, Try.ntmps48
  go_wp2
  go_ret
  exact ⟨rfl, rfl⟩
theorem TakeRef_any (s c : Nat) (hs : s < 4294967296) (hc : c < 256) (w : World) : Calls Try.prog 44 #[.int .u32 (s : Int), .int .u8 (c : Int)] w fun e w' => e = .returned (.int .u32 (takeN s c : Nat)) ∧ w = w' := by
  have hx := u32_xor_nat s c hs (by omega)
  have hby := by_ref (s ^^^ c) 16777619 (xor_lt32 (a := s) (b := c) hs (by omega)) (by decide)
  have ht : takeN s c = (s ^^^ c) * 16777619 % 4294967296 := rfl
  rw [ht]
  have hby' : ∀ w, Calls Try.prog 48 #[.int .u32 (bits .xor .u32 (s : Int) (c : Int)), .int .u32 16777619] w fun e w' => e = .returned (.int .u32 (((s ^^^ c) * 16777619 % 4294967296 : Nat) : Int)) ∧ w = w' := fun w => by rw [hx]; exact hby w
  have h0 : (0 : Int) ≤ s := by omega
  have h1 : (s : Int) ≤ 4294967295 := by omega
  have h2 : (0 : Int) ≤ c := by omega
  have h3 : (c : Int) ≤ 255 := by omega
  generalize (s ^^^ c) * 16777619 % 4294967296 = r at *
  clear ht hs hc hx hby
  go_enter Try.func44, Try.ntmps44
  go_wp2_with fail
  refine (hby' _).mono ?_
  rintro e _ ⟨rfl, rfl⟩
  go_wp2
  go_ret
  exact ⟨rfl, rfl⟩

end Go.Proofs.Ytlhbipommhljiaa
