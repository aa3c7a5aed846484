/- SumTells: the sum of any bytes, of a sum and bytes, and a sum ahead of a byte, is the document's; what is handed in stays. Proved for every input, with no condition. -/
import Derived.Test.YtkecaocnlomjnaaRef00
import Derived.Test.YtkecaocnlomjnaaSumLives
import Derived.ProofKit
import Derived.OpenShut
import Derived.ShutString
import Derived.ChangeOld
import Derived.Below
import Derived.SizedLaws
namespace Go.Proofs.Ytkecaocnlomjnaa.sumTells
open Go.RowKit Go.Shelf Go.ChangeShapes Go.WideShapes Go.ChangeAt
set_option linter.unusedVariables false

theorem own : ownKnob Try.prog.godebug = none := by kernel_rfl
theorem laidOut : laidOutB Try.prog = true := by kernel_rfl
theorem u8_of_wf {x : Int} (h : (Lit.int .u8 x).wf = true) : 0 ≤ x ∧ x < 256 := by
  simp [Lit.wf, IntKind.min, IntKind.max, IntKind.signed, IntKind.bits] at h
  exact ⟨by omega, by omega⟩
theorem u32_of_wf {x : Int} (h : (Lit.int .u32 x).wf = true) : 0 ≤ x ∧ x < 4294967296 := by
  simp [Lit.wf, IntKind.min, IntKind.max, IntKind.signed, IntKind.bits] at h
  exact ⟨by omega, by omega⟩

set_option maxHeartbeats 1000000 in
theorem walk (s c : Nat) (l : List UInt8) (A : Option Addr) (cp : Nat) (w : World) (hs : s < 4294967296) (hc : c < 256) (hl : l.length ≤ 140737488351232) (hr : Rd w A l) (hA : A = none → l = [] ∧ cp = 0) :
    Calls Try.prog 3 #[.int .u32 (s : Int), .int .u8 (c : Int), .slice A l.length cp] w fun e w' => e = .returned (.bool true) ∧ Below w.heap.size w w' := by
  have hwide := Wide_any l A cp w (by omega) hr hA
  have hta := Take_any s c hs hc
  have htb := TakeRef_any s c hs hc
  have hba := Back_any s c hs hc
  have hbb := BackRef_any s c hs hc
  have hma := fun W A c h => More_any s hs l A c W (by omega) h
  have hmb := fun W A c h => MoreRef_any s hs l A c W (by omega) h
  have hoa := fun W A c h => Of_any l A c W (by omega) h
  have hob := fun W A c h => OfRef_any l A c W (by omega) h
  generalize moreN s l = m at *
  generalize ofN l = o at *
  generalize takeN s c = tk at *
  generalize backN s c = bk at *
  have HR := Lib.hid hr
  clear hs hc hA hr
  go_enter Try.func3, Try.ntmps3
  go_wp2_with fail
  refine hwide.mono ?_
  clear hwide
  rintro e w1 ⟨g, cap, rfl, hcap, hcm, hrw, hb1⟩
  have HW := Lib.hid hrw
  have HR1 := Lib.hid (HR.out.below hb1)
  clear hrw
  go_wp2_with fail
  refine (hta _).mono ?_
  rintro e _ ⟨rfl, rfl⟩
  go_wp2_with fail
  refine (htb _).mono ?_
  rintro e _ ⟨rfl, rfl⟩
  go_wp2_with fail
  refine (hma _ _ _ (rd_prefix HW.out)).mono ?_
  rintro e _ ⟨rfl, rfl⟩
  go_wp2_with fail
  refine (hmb _ _ _ HR1.out).mono ?_
  rintro e _ ⟨rfl, rfl⟩
  go_wp2_with fail
  refine (hoa _ _ _ (rd_prefix HW.out)).mono ?_
  rintro e _ ⟨rfl, rfl⟩
  go_wp2_with fail
  refine (hob _ _ _ HR1.out).mono ?_
  rintro e _ ⟨rfl, rfl⟩
  go_wp2_with fail
  refine (hba _).mono ?_
  rintro e _ ⟨rfl, rfl⟩
  go_wp2_with fail
  refine (hbb _).mono ?_
  rintro e _ ⟨rfl, rfl⟩
  go_wp2_with fail
  refine (Left_any l A cp g cap w1 hcap hcm HW.out HR1.out).mono ?_
  rintro e _ ⟨rfl, rfl⟩
  go_wp2_with fail
  refine (lives_any _).mono ?_
  rintro e w2 ⟨rfl, hb2⟩
  go_wp2_with fail
  go_ret
  exact ⟨rfl, below_chain hb1 hb2⟩

set_option maxRecDepth 100000 in
theorem lifted (os : Os) (started : os.Started) (H : Type) (enc : TypeId × Value → H) :
    ReturnsInHanded {} Try.checked os 3 .any (Rows.sumTellsSpec.pre6 enc Try.prog Try.f3 Rows.sumTellsRow.domain false) (Rows.sumTellsSpec.post enc Try.prog Try.f3 false true false false) := by
  refine returnsInHanded_of_change_sized (C := Try.checked) own started (by kernel_rfl) Try.func3
    (ChangeSpec.witness6 (enc := enc) (C := Try.checked) false ⟨#[], #[.int .u32 0, .int .u8 0, .slice none 0 0], []⟩ 8 (by kernel_rfl) (by kernel_rfl) (by kernel_rfl) (by kernel_rfl)) ?_
  intro W base args ds gs before hval0 hW hcnd hsz0 _
  have hsz : (DataW.weightsEach Try.prog (Try.f3.params.toList ++ Rows.sumTellsSpec.plain.varTypes Try.prog) (ds ++ gs)).all (· ≤ reachBytes) = true := hsz0
  clear hsz0
  have hval : ∀ (j : Nat) t v, Try.f3.params[j]? = some t → args[j]? = some v → Value.okWide Try.prog W .any base t v := hval0
  have hW' := hW
  obtain ⟨p, q, hA0, hV, rfl, hfz, hnd⟩ := hW
  have hA : DataW.TrodAll enc Try.prog W 0 (fun _ => true) true Try.f3.params.toList args.toList ds p := hA0
  rw [Try.params3] at hA hval hsz
  obtain ⟨v0, vs0, d0, ds0, p0, q0, hargs, rfl, rfl, h0, r0⟩ := trodAll_cons hA
  obtain ⟨v1, vs1, d1, ds1, p1, q1, rfl, rfl, rfl, h1, r1⟩ := trodAll_cons r0
  obtain ⟨v2, vs2, d2, ds2, p2, q2, rfl, rfl, rfl, h2, r2⟩ := trodAll_cons r1
  obtain ⟨rfl, rfl, rfl⟩ := trodAll_nil r2
  obtain rfl : args = #[v0, v1, v2] := by cases args; simp_all
  obtain ⟨rfl, rfl⟩ := trodVars_none hV
  obtain ⟨a0, rfl, rfl, rfl, w0⟩ := open_int Try.underlying22 (hval 0 22 v0 rfl rfl) h0
  obtain ⟨n0, rfl⟩ := Int.eq_ofNat_of_zero_le (u32_of_wf w0).1
  have hi0 : n0 < 4294967296 := by have := (u32_of_wf w0).2; omega
  obtain ⟨a1, rfl, rfl, rfl, w1⟩ := open_int Try.underlying5 (hval 1 5 v1 rfl rfl) h1
  obtain ⟨n1, rfl⟩ := Int.eq_ofNat_of_zero_le (u8_of_wf w1).1
  have hi1 : n1 < 256 := by have := (u8_of_wf w1).2; omega
  obtain ⟨A2, l2, c2, cm2⟩ := open_came (hval 2 23 v2 rfl rfl) h2
  have nn2 : d2 = .nil → l2 = [] := nil_came h2 cm2
  have hl2 : l2.length ≤ 140737488351232 := by
    obtain ⟨-, -, -, -, -, hd⟩ := cm2
    rcases hd with hd | ⟨elems, spare, rfl, he, hc⟩
    · rw [nn2 hd]; decide
    · have := sized_slice hsz (j := 2) (t := 23) (e := 5) rfl rfl Try.underlying23
      rw [Try_bytes5] at this
      simp only [reachBytes] at this
      omega
  obtain ⟨rfl, rd2, nil2, hlc2, hcm2, -⟩ := cm2
  have lt2 : ∀ x ∈ p2, x.block < W.heap.size := by obtain ⟨m, hm⟩ := h2; exact DataW.trod_lt m _ _ _ hm
  clear hA0 hval0
  refine (walk n0 n1 l2 A2 c2 W hi0 hi1 hl2 rd2 nil2).mono fun e W' ⟨he, bel⟩ => ?_
  subst he
  exact ⟨_, rfl, _, _, _, [], _, [], hW', trodAll_mk1 (shut_bool Try.underlying4 _), (trodAll_cons_mk (shut_int Try.underlying22 w0) (trodAll_cons_mk (shut_int Try.underlying5 w1) (trodAll_cons_mk (Below.trod laidOut (by kernel_rfl) (of_decide_eq_true (by kernel_rfl)) h2 bel lt2) trodAll_mk0))), rfl, bel.frame _, fun h => by cases h⟩

theorem over : Rows.sumTellsRow.holds Try.pinned (OpenSpec.ofChange Rows.sumTellsSpec) :=
  OpenClaim.holds_of_wide 3 Try.f3 rfl rfl rfl rfl rfl rfl rfl ⟨rfl, rfl, rfl, rfl, rfl⟩ rfl rfl rfl rfl rfl (by kernel_rfl) Try.func3 (by kernel_rfl)
    (of_decide_eq_true (by kernel_rfl)) (by unfold Func.isWrapper; first | (rw [if_pos (by decide +kernel)]; kernel_rfl) | (rw [if_neg (by decide +kernel)]; exact ⟨rfl, rfl⟩))
    (fun os started H enc _ => lifted os started H enc)

theorem proved : Rows.SumTellsSaid := over

end Go.Proofs.Ytkecaocnlomjnaa.sumTells
