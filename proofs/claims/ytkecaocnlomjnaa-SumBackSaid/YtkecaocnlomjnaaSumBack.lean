/- SumBack: Back undoes Take, and Take Back; all bytes, one behind the other, are undone. Proved for every input, with no condition. -/
import Derived.Test.YtkecaocnlomjnaaRef00
import Derived.Test.YtkecaocnlomjnaaSumLives
import Derived.ProofKit
import Derived.OpenShut
import Derived.ShutString
import Derived.ChangeOld
import Derived.Below
import Derived.SizedLaws
namespace Go.Proofs.Ytkecaocnlomjnaa.sumBack
open Go.RowKit Go.Shelf Go.ChangeShapes Go.WideShapes Go.ChangeAt
set_option linter.unusedVariables false

theorem own : ownKnob Try.prog.godebug = none := by kernel_rfl
theorem laidOut : laidOutB Try.prog = true := by kernel_rfl
theorem u8_of_wf {x : Int} (h : (Lit.int .u8 x).wf = true) : 0 ≤ x ∧ x < 256 := by
  simp [Lit.wf, IntKind.min, IntKind.max, IntKind.signed, IntKind.bits] at h
  exact ⟨by omega, by omega⟩
theorem u32_of_wf {x : Int} (h : (Lit.int .u32 x).wf = true) : 0 ≤ x ∧ x < 4294967296 := by
  simp [Lit.wf, IntKind.min, IntKind.max, IntKind.signed, IntKind.bits] at h
  exact ⟨by omega, by omega⟩

set_option maxHeartbeats 400000 in
theorem walk_long (s c : Nat) (l : List UInt8) (A : Option Addr) (cp : Nat) (w : World) (hs : s < 4294967296) (hc : c < 256) (hlt : 2000 < l.length) (hl : l.length ≤ 140737488351232) :
    Calls Try.prog 5 #[.int .u32 (s : Int), .int .u8 (c : Int), .slice A l.length cp] w fun e w' => e = .returned (.bool true) ∧ Below w.heap.size w w' := by
  have h1 : (2000 : Int) < (l.length : Int) := by omega
  clear hlt
  go_enter Try.func5, Try.ntmps5
  go_wp2_with fail
  refine (lives_any _).mono ?_
  rintro e w1 ⟨rfl, hb1⟩
  go_wp2_with fail
  go_ret
  exact ⟨rfl, hb1⟩

theorem back_step (s : Nat) (l : List UInt8) (r : Nat) (hs : s < 4294967296) (h : r < l.length) : backN (moreN s (l.take (r + 1))) l[r].toNat = moreN s (l.take r) := by
  rw [moreN_snoc s l r h, back_take _ _ (moreN_lt _ _ hs) (byte_toNat_lt l r h)]

set_option maxHeartbeats 1000000 in
theorem walk_short (s c : Nat) (l : List UInt8) (A : Option Addr) (cp : Nat) (w : World) (hs : s < 4294967296) (hc : c < 256) (hlt : ¬ 2000 < l.length) (hr : Rd w A l) :
    Calls Try.prog 5 #[.int .u32 (s : Int), .int .u8 (c : Int), .slice A l.length cp] w fun e w' => e = .returned (.bool true) ∧ Below w.heap.size w w' := by
  have h1 : decide ((2000 : Int) < (l.length : Int)) = false := by simp; omega
  have hl : l.length ≤ 2000 := by omega
  have hta := Take_any s c hs hc
  have hba := Back_any (takeN s c) c (takeN_lt _ _) hc
  rw [back_take s c hs hc] at hba
  have hbb := Back_any s c hs hc
  have htb := Take_any (backN s c) c (backN_lt _ _ hc) hc
  rw [take_back s c hs hc] at htb
  have hma := More_any s hs l A cp w (by omega) hr
  have HS := Lib.hid hs
  have HR := Lib.hid (fun k hk => rd_at hr k hk)
  clear hs hc hr hlt
  generalize takeN s c = tk at *
  generalize backN s c = bk at *
  go_enter Try.func5, Try.ntmps5
  go_wp2_with fail
  refine (hta _).mono ?_
  rintro e _ ⟨rfl, rfl⟩
  go_wp2_with fail
  refine (hba _).mono ?_
  rintro e _ ⟨rfl, rfl⟩
  go_wp2_with fail
  refine (hbb _).mono ?_
  rintro e _ ⟨rfl, rfl⟩
  go_wp2_with fail
  refine (htb _).mono ?_
  rintro e _ ⟨rfl, rfl⟩
  go_wp2_with fail
  refine hma.mono ?_
  rintro e _ ⟨rfl, rfl⟩
  clear hta hba hbb htb hma
  go_wp2_with fail
  go_loop [7, 8] (fun t i => ∃ k : Nat, k ≤ l.length ∧ i = .int .i64 ((k : Int) - 1) ∧ t = .int .u32 (moreN s (l.take k) : Nat)) (fun _ i => (intOf i + 1).toNat)
  case atStart => exact ⟨l.length, Nat.le_refl _, rfl, by rw [List.take_length]⟩
  case round =>
    obtain ⟨k, hk, rfl, rfl⟩ := hrel
    rcases k with _ | r
    · rw [show (((0 : Nat) : Int) - 1) = -1 from rfl, List.take_zero, moreN_nil]
      go_wp2_with fail
      refine (lives_any _).mono ?_
      rintro e w1 ⟨rfl, hb1⟩
      go_wp2_with fail
      go_ret
      exact ⟨rfl, hb1⟩
    · rw [show (((r + 1 : Nat) : Int) - 1) = (r : Int) by omega]
      obtain ⟨b, off, rfl, hc1⟩ := HR.out r (by omega)
      have hcall := Back_any (moreN s (l.take (r + 1))) l[r].toNat (moreN_lt _ _ HS.out) (byte_toNat_lt l r (by omega))
      rw [back_step s l r HS.out (by omega)] at hcall
      generalize moreN s (l.take (r + 1)) = m at *
      generalize l[r].toNat = cc at *
      go_wp2_with fail
      refine (hcall _).mono ?_
      clear hcall
      rintro e _ ⟨rfl, rfl⟩
      go_wp2
      go_round
      case rel => exact ⟨r, by omega, rfl, rfl⟩
      case measure => simp [intOf]

theorem walk (s c : Nat) (l : List UInt8) (A : Option Addr) (cp : Nat) (w : World) (hs : s < 4294967296) (hc : c < 256) (hl : l.length ≤ 140737488351232) (hr : Rd w A l) :
    Calls Try.prog 5 #[.int .u32 (s : Int), .int .u8 (c : Int), .slice A l.length cp] w fun e w' => e = .returned (.bool true) ∧ Below w.heap.size w w' := by
  by_cases h : 2000 < l.length
  · exact walk_long s c l A cp w hs hc h hl
  · exact walk_short s c l A cp w hs hc h hr

set_option maxRecDepth 100000 in
theorem lifted (os : Os) (started : os.Started) (H : Type) (enc : TypeId × Value → H) :
    ReturnsInHanded {} Try.checked os 5 .any (Rows.sumBackSpec.pre6 enc Try.prog Try.f5 Rows.sumBackRow.domain false) (Rows.sumBackSpec.post enc Try.prog Try.f5 false true false false) := by
  refine returnsInHanded_of_change_sized (C := Try.checked) own started (by kernel_rfl) Try.func5
    (ChangeSpec.witness6 (enc := enc) (C := Try.checked) false ⟨#[], #[.int .u32 0, .int .u8 0, .slice none 0 0], []⟩ 8 (by kernel_rfl) (by kernel_rfl) (by kernel_rfl) (by kernel_rfl)) ?_
  intro W base args ds gs before hval0 hW hcnd hsz0 _
  have hsz : (DataW.weightsEach Try.prog (Try.f5.params.toList ++ Rows.sumBackSpec.plain.varTypes Try.prog) (ds ++ gs)).all (· ≤ reachBytes) = true := hsz0
  clear hsz0
  have hval : ∀ (j : Nat) t v, Try.f5.params[j]? = some t → args[j]? = some v → Value.okWide Try.prog W .any base t v := hval0
  have hW' := hW
  obtain ⟨p, q, hA0, hV, rfl, hfz, hnd⟩ := hW
  have hA : DataW.TrodAll enc Try.prog W 0 (fun _ => true) true Try.f5.params.toList args.toList ds p := hA0
  rw [Try.params5] at hA hval hsz
  obtain ⟨v0, vs0, d0, ds0, p0, q0, hargs, rfl, rfl, h0, r0⟩ := trodAll_cons hA
  obtain ⟨v1, vs1, d1, ds1, p1, q1, rfl, rfl, rfl, h1, r1⟩ := trodAll_cons r0
  obtain ⟨v2, vs2, d2, ds2, p2, q2, rfl, rfl, rfl, h2, r2⟩ := trodAll_cons r1
  obtain ⟨rfl, rfl, rfl⟩ := trodAll_nil r2
  obtain rfl : args = #[v0, v1, v2] := by cases args; simp_all
  obtain ⟨rfl, rfl⟩ := trodVars_none hV
  obtain ⟨a0, rfl, rfl, rfl, w0⟩ := open_int Try.underlying22 (hval 0 22 v0 rfl rfl) h0
  obtain ⟨n0, rfl⟩ := Int.eq_ofNat_of_zero_le (u32_of_wf w0).1
  have hi0 : n0 < 4294967296 := by have := (u32_of_wf w0).2; omega
  obtain ⟨a1, rfl, rfl, rfl, w1⟩ := open_int Try.underlying5 (hval 1 5 v1 rfl rfl) h1
  obtain ⟨n1, rfl⟩ := Int.eq_ofNat_of_zero_le (u8_of_wf w1).1
  have hi1 : n1 < 256 := by have := (u8_of_wf w1).2; omega
  obtain ⟨A2, l2, c2, cm2⟩ := open_came (hval 2 23 v2 rfl rfl) h2
  have nn2 : d2 = .nil → l2 = [] := nil_came h2 cm2
  have hl2 : l2.length ≤ 140737488351232 := by
    obtain ⟨-, -, -, -, -, hd⟩ := cm2
    rcases hd with hd | ⟨elems, spare, rfl, he, hc⟩
    · rw [nn2 hd]; decide
    · have := sized_slice hsz (j := 2) (t := 23) (e := 5) rfl rfl Try.underlying23
      rw [Try_bytes5] at this
      simp only [reachBytes] at this
      omega
  obtain ⟨rfl, rd2, nil2, hlc2, hcm2, -⟩ := cm2
  have lt2 : ∀ x ∈ p2, x.block < W.heap.size := by obtain ⟨m, hm⟩ := h2; exact DataW.trod_lt m _ _ _ hm
  clear hA0 hval0
  refine (walk n0 n1 l2 A2 c2 W hi0 hi1 hl2 rd2).mono fun e W' ⟨he, bel⟩ => ?_
  subst he
  exact ⟨_, rfl, _, _, _, [], _, [], hW', trodAll_mk1 (shut_bool Try.underlying4 _), (trodAll_cons_mk (shut_int Try.underlying22 w0) (trodAll_cons_mk (shut_int Try.underlying5 w1) (trodAll_cons_mk (Below.trod laidOut (by kernel_rfl) (of_decide_eq_true (by kernel_rfl)) h2 bel lt2) trodAll_mk0))), rfl, bel.frame _, fun h => by cases h⟩

theorem over : Rows.sumBackRow.holds Try.pinned (OpenSpec.ofChange Rows.sumBackSpec) :=
  OpenClaim.holds_of_wide 5 Try.f5 rfl rfl rfl rfl rfl rfl rfl ⟨rfl, rfl, rfl, rfl, rfl⟩ rfl rfl rfl rfl rfl (by kernel_rfl) Try.func5 (by kernel_rfl)
    (of_decide_eq_true (by kernel_rfl)) (by unfold Func.isWrapper; first | (rw [if_pos (by decide +kernel)]; kernel_rfl) | (rw [if_neg (by decide +kernel)]; exact ⟨rfl, rfl⟩))
    (fun os started H enc _ => lifted os started H enc)

theorem proved : Rows.SumBackSaid := over

end Go.Proofs.Ytkecaocnlomjnaa.sumBack
