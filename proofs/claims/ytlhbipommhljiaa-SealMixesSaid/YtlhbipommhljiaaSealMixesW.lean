/- SealMixes, the walk, put together. -/
import Derived.Test.YtlhbipommhljiaaSealMixesff
import Derived.Test.YtlhbipommhljiaaSealMixesfg
import Derived.Test.YtlhbipommhljiaaSealMixesgf
import Derived.Test.YtlhbipommhljiaaSealMixesgg
import Derived.Test.YtlhbipommhljiaaSealMixeszz
namespace Go.Proofs.Ytlhbipommhljiaa
open Go.RowKit Go.Shelf
set_option linter.unusedVariables false

theorem mixes (n m k : Int) (a b c : List UInt8) (A B C : Option Addr) (ca cb cc : Nat) (bs ms : Int) (w : World) (n0 : 0 ≤ n) (n1 : n < 4294967296) (m0 : 0 ≤ m) (m1 : m < 4294967296) (k0 : 0 ≤ k) (k1 : k < 4294967296) (la : a.length ≤ 140737488351232) (lb : b.length ≤ 140737488351232) (lc : c.length ≤ 140737488351232) (ra : Rd w A a) (rb : Rd w B b) (rc : Rd w C c) (b0 : 0 ≤ bs) (b1 : bs < 256) (s0 : 0 ≤ ms) (s1 : ms < 256) :
    Calls Try.prog 5 #[.int .u32 n, .int .u32 m, .int .u32 k, .slice A a.length ca, .slice B b.length cb, .slice C c.length cc, .int .u8 bs, .int .u8 ms] w fun e w' => e = .returned (.bool true) ∧ Below w.heap.size w w' := by
  by_cases he : putE n a = 0
  · by_cases hnm : n = m
    · exact mixes_nm n m k a b c A B C ca cb cc bs ms w n0 n1 m0 m1 k0 k1 la lb lc ra rb rc b0 b1 s0 s1 he hnm
    by_cases hnk : n = k
    · exact mixes_nk n m k a b c A B C ca cb cc bs ms w n0 n1 m0 m1 k0 k1 la lb lc ra rb rc b0 b1 s0 s1 he hnm hnk
    by_cases hmk : m = k
    · by_cases hm : m = 0
      · exact mixes_zz n m k a b c A B C ca cb cc bs ms w n0 n1 m0 m1 k0 k1 la lb lc ra rb rc b0 b1 s0 s1 he hnm hnk hmk hm (fun h => putE_pos h hm) (fun h => putE_pos h (hmk.symm.trans hm))
      · exact mixes_mk n m k a b c A B C ca cb cc bs ms w n0 n1 m0 m1 k0 k1 la lb lc ra rb rc b0 b1 s0 s1 he hnm hnk hmk hm
    by_cases hf : putE m b = 0
    · by_cases hg : putE k c = 0
      · exact mixes_ff n m k a b c A B C ca cb cc bs ms w n0 n1 m0 m1 k0 k1 la lb lc ra rb rc b0 b1 s0 s1 he hnm hnk hmk hf hg
      · exact mixes_fg n m k a b c A B C ca cb cc bs ms w n0 n1 m0 m1 k0 k1 la lb lc ra rb rc b0 b1 s0 s1 he hnm hnk hmk hf hg
    · by_cases hg : putE k c = 0
      · exact mixes_gf n m k a b c A B C ca cb cc bs ms w n0 n1 m0 m1 k0 k1 la lb lc ra rb rc b0 b1 s0 s1 he hnm hnk hmk hf hg
      · exact mixes_gg n m k a b c A B C ca cb cc bs ms w n0 n1 m0 m1 k0 k1 la lb lc ra rb rc b0 b1 s0 s1 he hnm hnk hmk hf hg
  · exact mixes_refused n m k a b c A B C ca cb cc bs ms w n0 n1 m0 m1 k0 k1 la lb lc ra rb rc b0 b1 s0 s1 he

end Go.Proofs.Ytlhbipommhljiaa
