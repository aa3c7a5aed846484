/- The leaves of package seal: piece, cut, numberOf, bytesOf, sumOf. -/
import Derived.Test.YtlhbipommhljiaaSealPlain
import Derived.Test.YtlhbipommhljiaaBlk2
namespace Go.Proofs.Ytlhbipommhljiaa
open Go.RowKit Go.Shelf
set_option linter.unusedVariables false

theorem piece_any (g q : Nat) (hq : q < 4) (w : World) : Calls Try.prog 31 #[.pointer (some ⟨g, 0, none⟩), .int .i64 (q : Int)] w fun e w' =>
    e = .returned (.slice (some ⟨g, 16 * q, none⟩) 16 16) ∧ w = w' := by
  rcases (show q = 0 ∨ q = 1 ∨ q = 2 ∨ q = 3 by omega) with rfl | rfl | rfl | rfl
  all_goals
    go_enter Try.func31, Try.ntmps31
    go_wp2
    go_ret
    exact ⟨rfl, rfl⟩
theorem cut_any (g q : Nat) (hq : q < 4) (w : World) : Calls Try.prog 23 #[.pointer (some ⟨g, 0, none⟩), .int .i64 (q : Int)] w fun e w' =>
    e = .returned (.tuple #[.slice (some ⟨g, 16 * q, none⟩) 4 4, .slice (some ⟨g, 16 * q + 4, none⟩) 12 12]) ∧ Below w.heap.size w w' := by
  have hp := piece_any g q hq w
  generalize 16 * q = f at *
  clear hq
  go_enter Try.func23, Try.ntmps23
  go_wp2_with fail
  refine hp.mono ?_
  clear hp
  rintro e _ ⟨rfl, rfl⟩
  go_wp2_with fail
  go_region
  go_wp2
  go_ret2
  exact ⟨rfl, (Below.refl _ _).drew⟩
theorem getV4 (l : List UInt8) (h : l.length = 4) : getV l 0 4 = .tuple #[.int .u64 (num4 l), .int .i64 0] := by
  unfold getV num4
  rw [if_neg (by simp [sizeB, placeB]), if_neg (by rw [h]; decide)]
  rfl
theorem numberOf_any (l : List UInt8) (h : l.length = 4) (A : Option Addr) (c : Nat) (hc : 4 ≤ c) (w : World) (hr : Rd w A l) : Calls Try.prog 27 #[.slice A 4 c] w fun e w' =>
    e = .returned (.int .u32 (num4 l)) ∧ Below w.heap.size w w' := by
  have hg := Get_any l A c 0 4 w (by rw [h]; decide) (by omega) hr
  rw [getV4 l h, h] at hg
  obtain ⟨h0, h1⟩ := num4_bd l
  have hw : IntKind.u32.wrap (num4 l) = num4 l := by rw [IntKind.wrap_u32]; omega
  generalize num4 l = n at *
  clear hr h
  go_enter Try.func27, Try.ntmps27
  go_wp2_with fail
  refine hg.mono ?_
  clear hg
  rintro e w1 ⟨rfl, hb⟩
  go_wp2_with fail
  go_ret
  exact ⟨rfl, hb⟩
theorem bytesOf_any (n : Int) (h0 : 0 ≤ n) (h1 : n < 4294967296) (w : World) : Calls Try.prog 20 #[.int .u32 n] w fun e w' =>
    ∃ g, e = .returned (.slice (some ⟨g, 0, none⟩) 4 4) ∧ Rd w' (some ⟨g, 0, none⟩) (beL n 4) ∧ Below w.heap.size w w' := by
  have hp := Put_ok n 4 (by decide) h0 (by omega) w (by simp [fitsB, lim]; omega)
  have h1' : n ≤ 4294967295 := by omega
  clear h1
  go_enter Try.func20, Try.ntmps20
  go_wp2_with fail
  refine hp.mono ?_
  clear hp
  rintro e w1 ⟨rfl, hb, hr⟩
  have HR := Lib.hid hr
  clear hr
  go_wp2_with fail
  go_ret
  exact ⟨_, rfl, HR.out, hb⟩
theorem sumOf_any (n : Int) (h0 : 0 ≤ n) (h1 : n < 4294967296) (l : List UInt8) (A : Option Addr) (c : Nat) (hl : l.length ≤ 281474976710656) (w : World) (hr : Rd w A l) : Calls Try.prog 22 #[.int .u32 n, .slice A l.length c] w fun e w' =>
    e = .returned (.int .u32 (sumN n l : Nat)) ∧ Below w.heap.size w w' := by
  have hbs := bytesOf_any n h0 h1
  have hof := fun g W h => Of_any (beL n 4) (some ⟨g, 0, none⟩) 4 W (by rw [beL_length]; decide) h
  rw [beL_length] at hof
  have hmo := fun W h => More_any (ofN (beL n 4)) (moreN_lt _ _ (by decide)) l A c W hl h
  have hs : sumN n l = moreN (ofN (beL n 4)) l := rfl
  rw [hs]
  clear hs
  generalize ofN (beL n 4) = s at *
  have HR := Lib.hid hr
  clear hr h0 h1
  go_enter Try.func22, Try.ntmps22
  go_wp2_with fail
  refine (hbs _).mono ?_
  rintro e w1 ⟨g, rfl, hr1, hb⟩
  go_wp2_with fail
  refine (hof g _ hr1).mono ?_
  rintro e _ ⟨rfl, rfl⟩
  clear hr1 hof hbs
  have HB := Lib.hid hb
  clear hb
  go_wp2_with fail
  refine (hmo _ (HR.out.below HB.out)).mono ?_
  clear hmo
  rintro e _ ⟨rfl, rfl⟩
  go_wp2_with fail
  go_ret
  exact ⟨rfl, HB.out⟩

end Go.Proofs.Ytlhbipommhljiaa
