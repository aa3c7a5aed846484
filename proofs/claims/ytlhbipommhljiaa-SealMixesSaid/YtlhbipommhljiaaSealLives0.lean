/- What the statements' one example of each function answers, as plain data. -/
import Derived.Test.YtlhbipommhljiaaSealPlain
namespace Go.Proofs.Ytlhbipommhljiaa
set_option linter.unusedVariables false

def b258 : Blk := putB 258 [7]
def b5 : Blk := putB 5 []
def b6 : Blk := putB 6 []
def bmix : Blk := torn b5 b6 2
def bmix31 : Blk := torn b5 b6 31
def z45 : List UInt8 := List.replicate 45 0
theorem z45_len : z45.length = 45 := by simp [z45]
theorem b258_len : b258.length = 64 := putB_len _ _
theorem b5_len : b5.length = 64 := putB_len _ _
theorem b6_len : b6.length = 64 := putB_len _ _
theorem bmix_len : bmix.length = 64 := torn_len _ _ _ b5_len b6_len
theorem bmix31_len : bmix31.length = 64 := torn_len _ _ _ b5_len b6_len
theorem e0 : putE 0 [] = 2 ∧ putE 0 z45 = 3 ∧ putE 258 [7] = 0 ∧ putE 5 [] = 0 ∧ putE 6 [] = 0 := by decide +kernel
theorem p0 : putB 0 [] = zb ∧ putB 0 z45 = zb := by decide +kernel
theorem g0 : getE zb = 5 ∧ getE bmix = 5 ∧ greatest bmix = 6 ∧ greatest bmix31 = 6 := by decide +kernel
theorem x6 : b258.take 6 = [0, 0, 1, 2, 7, 0] := by decide +kernel
theorem x18 : b258.getD 18 0 = 1 := by decide +kernel

end Go.Proofs.Ytlhbipommhljiaa
