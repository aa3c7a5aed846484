/- SumPieces in its second form: of pieces it is More of the first one's sum. Proved for every input whose lists are together of bulk at most 1048576 values and letters. -/
import Derived.Test.YtkecaocnlomjnaaRef00
import Derived.Test.YtkecaocnlomjnaaSumLives
import Derived.ProofKit
import Derived.OpenShut
import Derived.ShutString
import Derived.ChangeOld
import Derived.Below
import Derived.SizedLaws
import Derived.JoinedCond
namespace Go.Proofs.Ytkecaocnlomjnaa.sumPiecesUpto
open Go.RowKit Go.Shelf Go.ChangeShapes Go.WideShapes Go.ChangeAt
set_option linter.unusedVariables false

theorem own : ownKnob Try.prog.godebug = none := by kernel_rfl
theorem laidOut : laidOutB Try.prog = true := by kernel_rfl

/-- what is owned reads -/
theorem own_reads {W : World} {base n : Nat} {v : Value} {l : List UInt8} (h : W.ownsRow base 5 1 v n (cellsOf l)) (hn : n = l.length) : ∃ A c, v = .slice A n c ∧ Rd W A l := by
  subst hn
  rcases l with _ | ⟨x, l⟩
  · rcases h.2 with ⟨rfl, _⟩ | ⟨g, cap, cur, rfl, _⟩
    · exact ⟨none, 0, rfl, .inl rfl⟩
    · exact ⟨_, cap, rfl, .inl rfl⟩
  · obtain ⟨g, cap, rfl, -⟩ := own_form h (by simp)
    exact ⟨_, cap, rfl, own_rd h⟩

set_option maxHeartbeats 1000000 in
theorem walk (l1 : List UInt8) (A1 : Option Addr) (c1 : Nat) (l2 : List UInt8) (A2 : Option Addr) (c2 : Nat) (w : World) (hl : l1.length + l2.length ≤ 1048576)
    (r1 : Rd w A1 l1) (a1 : A1 = none → l1 = [] ∧ c1 = 0) (r2 : Rd w A2 l2) (a2 : A2 = none → l2 = [] ∧ c2 = 0) :
    Calls Try.prog 4 #[.slice A1 l1.length c1, .slice A2 l2.length c2] w fun e w' => e = .returned (.bool true) ∧ Below w.heap.size w w' := by
  have hoa := fun W h => Of_any l1 A1 c1 W (by omega) h
  have hma := fun W h => More_any (ofN l1) (ofN_lt l1) l2 A2 c2 W (by omega) h
  have hob := fun W A c h => Of_any (l1 ++ l2) A c W (by simp; omega) h
  have e : ofN (l1 ++ l2) = moreN (ofN l1) l2 := moreN_append _ _ _
  rw [e, List.length_append] at hob
  generalize moreN (ofN l1) l2 = m at *
  generalize ofN l1 = o at *
  have s1 := Lib.hid r1
  have s2 := Lib.hid r2
  have b1 := Lib.hid a1
  have b2 := Lib.hid a2
  clear e r1 r2 a1 a2
  go_enter Try.func4, Try.ntmps4
  go_wp2_with (first | (at_builtin; refine append_rd rfl (.tmp 6) (.tmp 7) rfl w.heap.size (.slice none 0 0) 0 [] rfl (World.ownsRow_nil _ _ _ _) A1 l1 l1.length c1 rfl rfl s1.out b1.out (by omega) (Nat.le_refl _) ?_; intro v2 w2 hown2 hgrow2; have q2 := (Below.refl w.heap.size w).grown hgrow2 (Nat.le_refl _) (fun k e => by cases e); have z2 := q2.size; simp only [Nat.zero_add, List.nil_append] at hown2; have t2 := Lib.hid (s2.out.below q2)) | (at_builtin; refine append_rd rfl (.tmp 9) (.tmp 10) rfl w.heap.size v2 l1.length l1 rfl hown2 A2 l2 l2.length c2 rfl rfl t2.out b2.out (by omega) (by omega) ?_; intro v3 w3 hown3 hgrow3; have q3 := q2.grown hgrow3 (by omega) (own_base hown2); obtain ⟨A3, c3, hv3, r3⟩ := own_reads hown3 (by simp); subst hv3; have HR3 := Lib.hid r3; have HO1 := Lib.hid (s1.out.below q3); have HO2 := Lib.hid (s2.out.below q3); clear r3 hown3 hgrow3 hown2 hgrow2))
  refine (hoa _ HO1.out).mono ?_
  rintro e _ ⟨rfl, rfl⟩
  go_wp2_with fail
  refine (hma _ HO2.out).mono ?_
  rintro e _ ⟨rfl, rfl⟩
  go_wp2_with fail
  refine (hob _ _ _ HR3.out).mono ?_
  rintro e _ ⟨rfl, rfl⟩
  go_wp2_with fail
  refine (lives_any _).mono ?_
  rintro e w4 ⟨rfl, hb4⟩
  go_wp2_with fail
  go_ret
  exact ⟨rfl, below_chain q3 hb4⟩

theorem contract (H : Type) (enc : TypeId × Value → H) (W : World) (base : Nat) (args : Array Value) (ds gs : List (DataW H)) (before : List MemPlace)
    (hval : ∀ (j : Nat) t v, Try.f4.params[j]? = some t → args[j]? = some v → Value.okWide Try.prog W .any base t v)
    (hW : DataW.Whole enc Try.prog Try.f4.params.toList Rows.sumPiecesSpec.vars false W args.toList ds gs before) (hk : Rows.uptoSmall H (ds ++ gs) = true) :
    Calls Try.prog 4 args W fun e W' => ∃ v, e = .returned v ∧ Rows.sumPiecesSpec.post enc Try.prog Try.f4 false true false false W args v W' := by
  have hW' := hW
  obtain ⟨p, q, hA0, hV, rfl, hfz, hnd⟩ := hW
  have hA : DataW.TrodAll enc Try.prog W 0 (fun _ => true) true Try.f4.params.toList args.toList ds p := hA0
  rw [Try.params4] at hA hval
  obtain ⟨v0, vs0, d0, ds0, p0, q0, hargs, rfl, rfl, h0, r0⟩ := trodAll_cons hA
  obtain ⟨v1, vs1, d1, ds1, p1, q1, rfl, rfl, rfl, h1, r1⟩ := trodAll_cons r0
  obtain ⟨rfl, rfl, rfl⟩ := trodAll_nil r1
  obtain rfl : args = #[v0, v1] := by cases args; simp_all
  obtain ⟨rfl, rfl⟩ := trodVars_none hV
  obtain ⟨A0, l0, c0, cm0⟩ := open_came (hval 0 23 v0 rfl rfl) h0
  have nn0 : d0 = .nil → l0 = [] := nil_came h0 cm0
  have hb0 := came_le cm0 nn0
  obtain ⟨rfl, rd0, nil0, hlc0, hcm0, -⟩ := cm0
  have lt0 : ∀ x ∈ p0, x.block < W.heap.size := by obtain ⟨m, hm⟩ := h0; exact DataW.trod_lt m _ _ _ hm
  obtain ⟨A1, l1, c1, cm1⟩ := open_came (hval 1 23 v1 rfl rfl) h1
  have nn1 : d1 = .nil → l1 = [] := nil_came h1 cm1
  have hb1 := came_le cm1 nn1
  obtain ⟨rfl, rd1, nil1, hlc1, hcm1, -⟩ := cm1
  have lt1 : ∀ x ∈ p1, x.block < W.heap.size := by obtain ⟨m, hm⟩ := h1; exact DataW.trod_lt m _ _ _ hm
  have hsum : l0.length + l1.length ≤ 1048576 := by
    have h := of_decide_eq_true hk
    simp only [Rows.uptoBulkAll, List.append_nil] at h
    omega
  clear hA0
  refine (walk l0 A0 c0 l1 A1 c1 W hsum rd0 nil0 rd1 nil1).mono fun e W' ⟨he, bel⟩ => ?_
  subst he
  exact ⟨_, rfl, _, _, _, [], _, [], hW', trodAll_mk1 (shut_bool Try.underlying4 _), (trodAll_cons_mk (Below.trod laidOut (by kernel_rfl) (of_decide_eq_true (by kernel_rfl)) h0 bel lt0) (trodAll_cons_mk (Below.trod laidOut (by kernel_rfl) (of_decide_eq_true (by kernel_rfl)) h1 bel lt1) trodAll_mk0)), rfl, bel.frame _, fun h => by cases h⟩

set_option maxRecDepth 100000 in
theorem lifted (os : Os) (started : os.Started) (H : Type) (enc : TypeId × Value → H) (F : Stop.Interp) :
    ReturnsInHanded {} Try.checked os 4 .any ((Rows.OpenSpec.upto Rows.sumPiecesSpec).pre6 enc Try.prog Try.f4 Rows.sumPiecesUptoRow.domain false) (((Rows.OpenSpec.upto Rows.sumPiecesSpec).at F).post enc Try.prog Try.f4 false true false false) := by
  refine returnsInHanded_of_cond (C := Try.checked) (s := Rows.OpenSpec.upto Rows.sumPiecesSpec) (k := Rows.uptoSmall) rfl own started (by kernel_rfl) Try.func4
    (OpenSpec.witness (enc := enc) (C := Try.checked) (s := Rows.OpenSpec.upto Rows.sumPiecesSpec) (k := Rows.uptoSmall) rfl false ⟨#[], #[.slice none 0 0, .slice none 0 0], []⟩ 8 (by kernel_rfl) (by kernel_rfl) (by kernel_rfl)
      (x := ([.nil, .nil], [], [])) (by kernel_rfl) rfl (by kernel_rfl)) ?_
  intro W base args ds gs before hval hW _ hk _
  exact contract H enc W base args ds gs before hval hW hk

theorem proved : Rows.SumPiecesUptoSaid :=
  OpenClaim.holds_of_cond 4 Try.f4 rfl rfl rfl rfl rfl rfl rfl ⟨rfl, rfl, rfl, rfl, rfl⟩ rfl rfl rfl rfl rfl (by kernel_rfl) Try.func4 (by kernel_rfl)
    (of_decide_eq_true (by kernel_rfl)) (by unfold Func.isWrapper; first | (rw [if_pos (by decide +kernel)]; kernel_rfl) | (rw [if_neg (by decide +kernel)]; exact ⟨rfl, rfl⟩))
    (fun os started H enc _ F => lifted os started H enc F)

end Go.Proofs.Ytkecaocnlomjnaa.sumPiecesUpto
