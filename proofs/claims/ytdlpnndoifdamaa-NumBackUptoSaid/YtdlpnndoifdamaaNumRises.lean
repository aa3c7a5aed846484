/- NumRises: a greater number's bytes are greater, of one size. Proved for every input, with no condition. -/
import Derived.Test.YtdlpnndoifdamaaNumLives
import Derived.ProofKit
import Derived.OpenShut
import Derived.ShutString
import Derived.ChangeOld
import Derived.Below
namespace Go.Proofs.Ytdlpnndoifdamaa.numRises
open Go.RowKit Go.Shelf Go.ChangeShapes Go.WideShapes Go.ChangeAt
set_option linter.unusedVariables false

theorem own : ownKnob Try.prog.godebug = none := by kernel_rfl

/-- the byte of a number below 256 -/
def b8 (v : Int) : UInt8 := UInt8.ofNat v.toNat
theorem b8_nat (v : Int) (h0 : 0 ≤ v) (h1 : v < 256) : ((b8 v).toNat : Int) = v := by
  unfold b8
  rw [UInt8.toNat_ofNat']
  omega
theorem b8_eq (u v : Int) (h0 : 0 ≤ u) (h1 : u < 256) (k0 : 0 ≤ v) (k1 : v < 256) : (b8 u == b8 v) = decide (u = v) := by
  have e1 := b8_nat u h0 h1
  have e2 := b8_nat v k0 k1
  by_cases h : u = v
  · simp [h]
  · have : b8 u ≠ b8 v := fun e => h (by rw [← e1, ← e2, e])
    simp [h, this]
theorem b8_lt (u v : Int) (h0 : 0 ≤ u) (h1 : u < 256) (k0 : 0 ≤ v) (k1 : v < 256) : decide (b8 u < b8 v) = decide (u < v) := by
  have e1 := b8_nat u h0 h1
  have e2 := b8_nat v k0 k1
  have : b8 u < b8 v ↔ u < v := by
    rw [UInt8.lt_iff_toNat_lt]
    omega
  simp [this]

theorem beL_succ (x : Int) (k : Nat) : beL x (k + 1) = b8 (x / 256 ^ k % 256) :: beL x k := by
  unfold beL b8
  rw [List.range_succ_eq_map, List.map_cons, List.map_map]
  congr 1
  apply List.map_congr_left
  intro j hj
  have : k + 1 - 1 - (j + 1) = k - 1 - j := by omega
  simp only [Function.comp, Nat.succ_eq_add_one, this]

theorem cut (x P : Int) (hP : 0 < P) : x % (P * 256) = (x / P % 256) * P + x % P := by
  have h1 := Int.emod_add_mul_ediv x (P * 256)
  have h2 := Int.emod_add_mul_ediv x P
  have h3 := Int.emod_add_mul_ediv (x / P) 256
  have h4 : x / P / 256 = x / (P * 256) := Int.ediv_ediv_of_nonneg (by omega)
  rw [h4] at h3
  generalize x / (P * 256) = q at *
  generalize x / P = r at *
  generalize r % 256 = s at *
  have h5 : P * r = P * s + P * (256 * q) := by rw [← h3, Int.mul_add]
  have h6 : P * 256 * q = P * (256 * q) := Int.mul_assoc P 256 q
  have h7 : s * P = P * s := Int.mul_comm s P
  omega

theorem lead_lt (a b r s P : Int) (hr : 0 ≤ r) (hr' : r < P) (hs : 0 ≤ s) (hs' : s < P) : (a * P + r < b * P + s) ↔ (a < b ∨ (a = b ∧ r < s)) := by
  constructor
  · intro h
    rcases Int.lt_trichotomy a b with h1 | h1 | h1
    · exact .inl h1
    · subst h1; exact .inr ⟨rfl, by omega⟩
    · exfalso
      have : (b + 1) * P ≤ a * P := Int.mul_le_mul_of_nonneg_right (by omega) (by omega)
      rw [Int.add_mul] at this
      omega
  · rintro (h | ⟨rfl, h⟩)
    · have : (a + 1) * P ≤ b * P := Int.mul_le_mul_of_nonneg_right (by omega) (by omega)
      rw [Int.add_mul] at this
      omega
    · omega
theorem lead_eq (a b r s P : Int) (hr : 0 ≤ r) (hr' : r < P) (hs : 0 ≤ s) (hs' : s < P) : (a * P + r = b * P + s) ↔ (a = b ∧ r = s) := by
  constructor
  · intro h
    have h1 := not_congr (lead_lt a b r s P hr hr' hs hs')
    have h2 := not_congr (lead_lt b a s r P hs hs' hr hr')
    omega
  · rintro ⟨rfl, rfl⟩; rfl

theorem pow_pos (k : Nat) : 0 < (256 : Int) ^ k := Int.pow_pos (by decide)

theorem less_mod (n m : Int) : ∀ k : Nat, Op.bytesLess (beL n k) (beL m k) = decide (n % 256 ^ k < m % 256 ^ k)
  | 0 => by simp [beL, Op.bytesLess]
  | k + 1 => by
    have hP := pow_pos k
    rw [beL_succ, beL_succ, Int.pow_succ, cut n _ hP, cut m _ hP]
    simp only [Op.bytesLess]
    rw [less_mod n m k, b8_lt _ _ (by omega) (by omega) (by omega) (by omega), b8_eq _ _ (by omega) (by omega) (by omega) (by omega)]
    have h := lead_lt (n / 256 ^ k % 256) (m / 256 ^ k % 256) (n % 256 ^ k) (m % 256 ^ k) (256 ^ k) (Int.emod_nonneg _ (by omega)) (Int.emod_lt_of_pos _ hP) (Int.emod_nonneg _ (by omega)) (Int.emod_lt_of_pos _ hP)
    simp only [h, Bool.decide_or, Bool.decide_and]
theorem same_mod (n m : Int) : ∀ k : Nat, (beL n k == beL m k) = decide (n % 256 ^ k = m % 256 ^ k)
  | 0 => by simp [beL]
  | k + 1 => by
    have hP := pow_pos k
    rw [beL_succ, beL_succ, Int.pow_succ, cut n _ hP, cut m _ hP]
    have e : (b8 (n / 256 ^ k % 256) :: beL n k == b8 (m / 256 ^ k % 256) :: beL m k) = ((b8 (n / 256 ^ k % 256) == b8 (m / 256 ^ k % 256)) && (beL n k == beL m k)) := by simp
    rw [e, same_mod n m k, b8_eq _ _ (by omega) (by omega) (by omega) (by omega)]
    have h := lead_eq (n / 256 ^ k % 256) (m / 256 ^ k % 256) (n % 256 ^ k) (m % 256 ^ k) (256 ^ k) (Int.emod_nonneg _ (by omega)) (Int.emod_lt_of_pos _ hP) (Int.emod_nonneg _ (by omega)) (Int.emod_lt_of_pos _ hP)
    simp only [h, Bool.decide_and]

theorem fits_lt (n : Int) (k : Nat) (hs : sizeB k = true) (n0 : 0 ≤ n) (n1 : n ≤ 18446744073709551615) (hn : fitsB n k = true) : n % 256 ^ k = n := by
  have h : n < 256 ^ k := by
    simp only [fitsB, lim] at hn
    rcases size_cases hs with rfl | rfl | rfl | rfl <;> simp at hn ⊢ <;> omega
  exact Int.emod_eq_of_lt n0 h

theorem less_eq (n m : Int) (k : Nat) (hs : sizeB k = true) (n0 : 0 ≤ n) (n1 : n ≤ 18446744073709551615) (m0 : 0 ≤ m) (m1 : m ≤ 18446744073709551615) (hn : fitsB n k = true) (hm : fitsB m k = true) : decide (n < m) = Op.bytesLess (beL n k) (beL m k) := by
  rw [less_mod, fits_lt n k hs n0 n1 hn, fits_lt m k hs m0 m1 hm]
theorem same_eq (n m : Int) (k : Nat) (hs : sizeB k = true) (n0 : 0 ≤ n) (n1 : n ≤ 18446744073709551615) (m0 : 0 ≤ m) (m1 : m ≤ 18446744073709551615) (hn : fitsB n k = true) (hm : fitsB m k = true) : (n == m) = (beL n k == beL m k) := by
  rw [same_mod, fits_lt n k hs n0 n1 hn, fits_lt m k hs m0 m1 hm]
  rfl

set_option maxHeartbeats 1000000 in
theorem walk_yes (n m : Int) (k : Nat) (hs : sizeB k = true) (n0 : 0 ≤ n) (n1 : n ≤ 18446744073709551615) (m0 : 0 ≤ m) (m1 : m ≤ 18446744073709551615) (hn : fitsB n k = true) (hm : fitsB m k = true) (w : World) :
    Calls Try.prog 5 #[.int .u64 n, .int .u64 m, .int .i64 k] w fun e w' => e = .returned (.bool true) ∧ Below w.heap.size w w' := by
  go_enter Try.func5, Try.ntmps5
  go_wp2_with fail
  refine (Put_ok n k hs n0 n1 _ hn).mono ?_
  rintro e w1 ⟨rfl, hb1, hr1⟩
  go_wp2_with fail
  refine (Put_ok m k hs m0 m1 _ hm).mono ?_
  rintro e w2 ⟨rfl, hb2, hr2⟩
  have k1 := conv_rd (hr1.below hb2) k
  have k2 := conv_rd hr2 k
  rw [beL_length] at k1 k2
  have q1 := less_eq n m k hs n0 n1 m0 m1 hn hm
  have q2 := same_eq n m k hs n0 n1 m0 m1 hn hm
  have hb := below_chain hb1 hb2
  clear hr1 hr2 hb1 hb2 hs hn hm
  generalize beL n k = p at *
  generalize beL m k = q at *
  go_wp2_with fail
  refine (lives_any _).mono ?_
  rintro e w3 ⟨rfl, hb3⟩
  go_wp2_with fail
  go_ret
  exact ⟨rfl, below_chain hb hb3⟩

/-- whatever Put is handed: some slice, some error -/
theorem Put_some (x s : Int) (x0 : 0 ≤ x) (x1 : x ≤ 18446744073709551615) (w : World) :
    ∃ (A : Option Addr) (len cap : Nat) (er : Int), Calls Try.prog 8 #[.int .u64 x, .int .i64 s] w fun e W' => e = .returned (.tuple #[.slice A len cap, .int .i64 er]) ∧ Below w.heap.size w W' := by
  by_cases h : sizeB s = false ∨ fitsB x s = false
  · exact ⟨none, 0, 0, 2, Put_no x s x0 x1 w h⟩
  · have hs : sizeB s = true := by
      rcases h1 : sizeB s with _ | _
      · exact absurd (.inl h1) h
      · rfl
    have hf : fitsB x s = true := by
      rcases h1 : fitsB x s with _ | _
      · exact absurd (.inr h1) h
      · rfl
    obtain ⟨k, rfl⟩ := Int.eq_ofNat_of_zero_le (show 0 ≤ s by have := size_bd hs; omega)
    exact ⟨_, _, _, _, (Put_ok x k hs x0 x1 w hf).mono fun e W' ⟨he, hb, _⟩ => ⟨he, hb⟩⟩

theorem walk_no1 (n m s : Int) (n0 : 0 ≤ n) (n1 : n ≤ 18446744073709551615) (m0 : 0 ≤ m) (m1 : m ≤ 18446744073709551615) (w : World)
    (h : sizeB s = false ∨ fitsB n s = false) :
    Calls Try.prog 5 #[.int .u64 n, .int .u64 m, .int .i64 s] w fun e w' => e = .returned (.bool true) ∧ Below w.heap.size w w' := by
  have P1 := Put_no n s n0 n1 w h
  clear h
  go_enter Try.func5, Try.ntmps5
  go_wp2_with fail
  refine P1.mono ?_
  clear P1
  rintro e w1 ⟨rfl, hb1⟩
  obtain ⟨A, len, cap, er, P2⟩ := Put_some m s m0 m1 w1
  go_wp2_with fail
  refine P2.mono ?_
  clear P2
  rintro e w2 ⟨rfl, hb2⟩
  go_wp2_with fail
  refine (lives_any _).mono ?_
  rintro e w3 ⟨rfl, hb3⟩
  go_wp2_with fail
  go_ret
  exact ⟨rfl, below_chain (below_chain hb1 hb2) hb3⟩

theorem walk_no2 (n m : Int) (k : Nat) (hs : sizeB k = true) (n0 : 0 ≤ n) (n1 : n ≤ 18446744073709551615) (m0 : 0 ≤ m) (m1 : m ≤ 18446744073709551615) (hn : fitsB n k = true) (hm : fitsB m k = false) (w : World) :
    Calls Try.prog 5 #[.int .u64 n, .int .u64 m, .int .i64 k] w fun e w' => e = .returned (.bool true) ∧ Below w.heap.size w w' := by
  go_enter Try.func5, Try.ntmps5
  go_wp2_with fail
  refine (Put_ok n k hs n0 n1 _ hn).mono ?_
  rintro e w1 ⟨rfl, hb1, -⟩
  go_wp2_with fail
  refine (Put_no m k m0 m1 _ (.inr hm)).mono ?_
  rintro e w2 ⟨rfl, hb2⟩
  clear hs hn hm
  go_wp2_with fail
  refine (lives_any _).mono ?_
  rintro e w3 ⟨rfl, hb3⟩
  go_wp2_with fail
  go_ret
  exact ⟨rfl, below_chain (below_chain hb1 hb2) hb3⟩

theorem u64_of_wf {x : Int} (h : (Lit.int .u64 x).wf = true) : 0 ≤ x ∧ x ≤ 18446744073709551615 := by
  simp [Lit.wf, IntKind.min, IntKind.max, IntKind.signed, IntKind.bits] at h
  exact ⟨by omega, by omega⟩

theorem walk (a0 a1 a2 : Int) (w0 : (Lit.int .u64 a0).wf = true) (w1 : (Lit.int .u64 a1).wf = true) (w : World) :
    Calls Try.prog 5 #[.int .u64 a0, .int .u64 a1, .int .i64 a2] w fun e w' => e = .returned (.bool true) ∧ Below w.heap.size w w' := by
  obtain ⟨n0, n1⟩ := u64_of_wf w0
  obtain ⟨m0, m1⟩ := u64_of_wf w1
  by_cases h : sizeB a2 = false ∨ fitsB a0 a2 = false
  · exact walk_no1 a0 a1 a2 n0 n1 m0 m1 w h
  · have hs : sizeB a2 = true := by
      rcases h1 : sizeB a2 with _ | _
      · exact absurd (.inl h1) h
      · rfl
    have hf : fitsB a0 a2 = true := by
      rcases h1 : fitsB a0 a2 with _ | _
      · exact absurd (.inr h1) h
      · rfl
    obtain ⟨k, rfl⟩ := Int.eq_ofNat_of_zero_le (show 0 ≤ a2 by have := size_bd hs; omega)
    rcases hm : fitsB a1 k with _ | _
    · exact walk_no2 a0 a1 k hs n0 n1 m0 m1 hf hm w
    · exact walk_yes a0 a1 k hs n0 n1 m0 m1 hf hm w

set_option maxRecDepth 100000 in
theorem lifted (os : Os) (started : os.Started) (H : Type) (enc : TypeId × Value → H) :
    ReturnsInHanded {} Try.checked os 5 .any (Rows.numRisesSpec.pre6 enc Try.prog Try.f5 Rows.numRisesRow.domain false) (Rows.numRisesSpec.post enc Try.prog Try.f5 false true false false) := by
  refine returnsInHanded_of_change (C := Try.checked) own started (by kernel_rfl) Try.func5
    (ChangeSpec.witness6 (enc := enc) (C := Try.checked) false ⟨#[], #[.int .u64 0, .int .u64 0, .int .i64 0], []⟩ 8 (by kernel_rfl) (by kernel_rfl) (by kernel_rfl) (by kernel_rfl)) ?_
  intro W base args ds gs before hval0 hW hcnd _
  have hval : ∀ (j : Nat) t v, Try.f5.params[j]? = some t → args[j]? = some v → Value.okWide Try.prog W .any base t v := hval0
  have hW' := hW
  obtain ⟨p, q, hA0, hV, rfl, hfz, hnd⟩ := hW
  have hA : DataW.TrodAll enc Try.prog W 0 (fun _ => true) true Try.f5.params.toList args.toList ds p := hA0
  rw [Try.params5] at hA hval
  obtain ⟨v0, vs0, d0, ds0, p0, q0, hargs, rfl, rfl, h0, r0⟩ := trodAll_cons hA
  obtain ⟨v1, vs1, d1, ds1, p1, q1, rfl, rfl, rfl, h1, r1⟩ := trodAll_cons r0
  obtain ⟨v2, vs2, d2, ds2, p2, q2, rfl, rfl, rfl, h2, r2⟩ := trodAll_cons r1
  obtain ⟨rfl, rfl, rfl⟩ := trodAll_nil r2
  obtain rfl : args = #[v0, v1, v2] := by cases args; simp_all
  obtain ⟨rfl, rfl⟩ := trodVars_none hV
  obtain ⟨a0, rfl, rfl, rfl, w0⟩ := open_int Try.underlying22 (hval 0 22 v0 rfl rfl) h0
  obtain ⟨a1, rfl, rfl, rfl, w1⟩ := open_int Try.underlying22 (hval 1 22 v1 rfl rfl) h1
  obtain ⟨a2, rfl, rfl, rfl, w2⟩ := open_int Try.underlying3 (hval 2 3 v2 rfl rfl) h2
  clear hA0 hval0
  refine (walk a0 a1 a2 w0 w1 W).mono fun e W' ⟨he, bel⟩ => ?_
  subst he
  exact ⟨_, rfl, _, _, _, [], _, [], hW', trodAll_mk1 (shut_bool Try.underlying4 _), (trodAll_cons_mk (shut_int Try.underlying22 w0) (trodAll_cons_mk (shut_int Try.underlying22 w1) (trodAll_cons_mk (shut_int Try.underlying3 w2) trodAll_mk0))), rfl, bel.frame _, fun h => by cases h⟩

theorem over : Rows.numRisesRow.holds Try.pinned (OpenSpec.ofChange Rows.numRisesSpec) :=
  OpenClaim.holds_of_wide 5 Try.f5 rfl rfl rfl rfl rfl rfl rfl ⟨rfl, rfl, rfl, rfl, rfl⟩ rfl rfl rfl rfl rfl (by kernel_rfl) Try.func5 (by kernel_rfl)
    (of_decide_eq_true (by kernel_rfl)) (by unfold Func.isWrapper; first | (rw [if_pos (by decide +kernel)]; kernel_rfl) | (rw [if_neg (by decide +kernel)]; exact ⟨rfl, rfl⟩))
    (fun os started H enc _ => lifted os started H enc)

theorem proved : Rows.NumRisesSaid := over

end Go.Proofs.Ytdlpnndoifdamaa.numRises
