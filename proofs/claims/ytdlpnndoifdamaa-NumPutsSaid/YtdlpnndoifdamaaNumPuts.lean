/- NumPuts: the bytes of any number, the number of any bytes, padding, bytes of 0, and sums, are the reference's, or its error; what is handed in stays. Proved for every input, with no condition. -/
import Derived.Test.YtdlpnndoifdamaaNumOpen
namespace Go.Proofs.Ytdlpnndoifdamaa.numPuts
open Go.RowKit Go.Shelf Go.ChangeShapes Go.WideShapes Go.ChangeAt
set_option linter.unusedVariables false

theorem own : ownKnob Try.prog.godebug = none := by kernel_rfl
theorem laidOut : laidOutB Try.prog = true := by kernel_rfl

/-- the bytes, and the error, that Put answers -/
def putL (x s : Int) : List UInt8 := if sizeB s = true ∧ fitsB x s = true then beL x s.toNat else []
def putE (x s : Int) : Int := if sizeB s = true ∧ fitsB x s = true then 0 else 2
def PutAny (x s : Int) (w : World) (e : Ending) (W' : World) : Prop :=
  ∃ A cap, e = .returned (.tuple #[.slice A (putL x s).length cap, .int .i64 (putE x s)]) ∧ Below w.heap.size w W' ∧ Rd W' A (putL x s)

theorem Put_any (x s : Int) (hx : 0 ≤ x) (hx' : x ≤ 18446744073709551615) (w : World) : Calls Try.prog 8 #[.int .u64 x, .int .i64 s] w fun e W' => PutAny x s w e W' := by
  unfold PutAny putL putE
  by_cases h : sizeB s = true ∧ fitsB x s = true
  · simp only [if_pos h]
    obtain ⟨k, rfl⟩ := Int.eq_ofNat_of_zero_le (show 0 ≤ s by have := size_bd h.1; omega)
    refine (Put_ok x k h.1 hx hx' w h.2).mono fun e W' ⟨he, hb, hr⟩ => ⟨_, k, ?_, hb, hr⟩
    rw [he, Int.toNat_natCast, beL_length]
  · simp only [if_neg h]
    have h' : sizeB s = false ∨ fitsB x s = false := by
      rcases h1 : sizeB s with _ | _
      · exact .inl rfl
      · rcases h2 : fitsB x s with _ | _
        · exact .inr rfl
        · exact absurd ⟨h1, h2⟩ h
    exact (Put_no x s hx hx' w h').mono fun e W' ⟨he, hb⟩ => ⟨none, 0, he, hb, .inl rfl⟩
theorem PutRef_any (x s : Int) (hx : 0 ≤ x) (hx' : x ≤ 18446744073709551615) (w : World) : Calls Try.prog 9 #[.int .u64 x, .int .i64 s] w fun e W' => PutAny x s w e W' := by
  unfold PutAny putL putE
  by_cases h : sizeB s = true ∧ fitsB x s = true
  · simp only [if_pos h]
    obtain ⟨k, rfl⟩ := Int.eq_ofNat_of_zero_le (show 0 ≤ s by have := size_bd h.1; omega)
    refine (PutRef_ok x k h.1 hx hx' w h.2).mono fun e W' ⟨g, cap, he, hr, hb⟩ => ⟨_, cap, ?_, hb, hr⟩
    rw [he, Int.toNat_natCast, beL_length]
  · simp only [if_neg h]
    have h' : sizeB s = false ∨ fitsB x s = false := by
      rcases h1 : sizeB s with _ | _
      · exact .inl rfl
      · rcases h2 : fitsB x s with _ | _
        · exact .inr rfl
        · exact absurd ⟨h1, h2⟩ h
    exact (PutRef_no x s hx hx' w h').mono fun e W' ⟨he, hb⟩ => ⟨none, 0, he, by rw [← hb]; exact Below.refl _ _, .inl rfl⟩

theorem getV_form (l : List UInt8) (i s : Int) : ∃ p er, getV l i s = .tuple #[.int .u64 p, .int .i64 er] := by
  unfold getV
  split
  · exact ⟨_, _, rfl⟩
  · split
    · exact ⟨_, _, rfl⟩
    · exact ⟨_, _, rfl⟩
theorem addV_form (a b : Int) : ∃ s is, addV a b = .tuple #[.int .u64 s, .bool is] := by
  unfold addV
  split
  · exact ⟨_, _, rfl⟩
  · exact ⟨_, _, rfl⟩

set_option maxHeartbeats 2000000 in
theorem walk (n m s : Int) (l : List UInt8) (A : Option Addr) (c : Nat) (i many : Int) (w : World) (n0 : 0 ≤ n) (n1 : n ≤ 18446744073709551615) (m0 : 0 ≤ m) (m1 : m ≤ 18446744073709551615)
    (hmany : many ≤ 9223372036854775807) (hl : l.length + 3 ≤ 140737488355328) (hlc : l.length ≤ c) (hr : Rd w A l) (hA : A = none → l = [] ∧ c = 0) :
    Calls Try.prog 3 #[.int .u64 n, .int .u64 m, .int .i64 s, .slice A l.length c, .int .i64 i, .int .i64 many] w fun e w' => e = .returned (.bool true) ∧ Below w.heap.size w w' := by
  have hlm : l.length ≤ maxLen := by unfold maxLen; omega
  have hwide := Wide_any l A c w hl hr hA
  clear hA
  go_enter Try.func3, Try.ntmps3
  go_wp2_with fail
  refine hwide.mono ?_
  clear hwide
  rintro e w1 ⟨g, cap, rfl, hcap, hcm, hrw, hb1⟩
  have hlcap : l.length ≤ cap := by omega
  go_wp2_with fail
  refine (Put_any n s n0 n1 _).mono ?_
  rintro e w2 ⟨A2, c2, rfl, hb2, hr2⟩
  go_wp2_with fail
  refine (PutRef_any n s n0 n1 _).mono ?_
  rintro e w3 ⟨A3, c3, rfl, hb3, hr3⟩
  have hr2' := hr2.below hb3
  have hrw3 := (hrw.below hb2).below hb3
  generalize putL n s = P at *
  generalize putE n s = er at *
  obtain ⟨p, ge, hgv⟩ := getV_form l i s
  have hget := Get_any l (some ⟨g, 0, none⟩) cap i s w3 hlm hlcap (rd_prefix hrw3)
  rw [hgv] at hget
  go_wp2_with fail
  refine hget.mono ?_
  clear hget
  rintro e w4 ⟨rfl, hb4⟩
  have hb14 := below_chain (below_chain (below_chain hb1 hb2) hb3) hb4
  have hgetr := GetRef_any l A c i s w4 hlm hlc (hr.below hb14)
  rw [hgv] at hgetr
  clear hgv
  go_wp2_with fail
  refine hgetr.mono ?_
  clear hgetr
  rintro e _ ⟨rfl, rfl⟩
  obtain ⟨sm, is, hav⟩ := addV_form n m
  have hadd := Add_any n m n0 m0 n1 m1 w4
  have haddr := Add_ref n m n0 m0 n1 m1 w4
  rw [hav] at hadd haddr
  clear hav
  go_wp2_with fail
  refine hadd.mono ?_
  clear hadd
  rintro e _ ⟨rfl, rfl⟩
  go_wp2_with fail
  refine haddr.mono ?_
  clear haddr
  rintro e _ ⟨rfl, rfl⟩
  have hsame := Same_any A2 A3 P P c2 c3 w4 (hr2'.below hb4) (hr3.below hb4)
  rw [show (P == P) = true by simp] at hsame
  go_wp2_with fail
  refine hsame.mono ?_
  clear hsame
  rintro e _ ⟨rfl, rfl⟩
  go_wp2_with fail
  refine (Pad_any many hmany _).mono ?_
  rintro e _ ⟨rfl, rfl⟩
  go_wp2_with fail
  refine (Pad_ref many hmany _).mono ?_
  rintro e _ ⟨rfl, rfl⟩
  generalize padI many = pd at *
  have hz := Zero_any l (some ⟨g, 0, none⟩) cap i many w4 hlm hlcap (rd_prefix (hrw3.below hb4))
  have hzr := ZeroRef_any l A c i many w4 hlm hlc (hr.below hb14)
  generalize zeroV l i many = zv at *
  go_wp2_with fail
  refine hz.mono ?_
  clear hz
  rintro e _ ⟨rfl, rfl⟩
  go_wp2_with fail
  refine hzr.mono ?_
  clear hzr
  rintro e _ ⟨rfl, rfl⟩
  have hleft := Left_any l A c g cap w4 hcap hcm (hrw3.below hb4) (hr.below hb14)
  go_wp2_with fail
  refine hleft.mono ?_
  clear hleft
  rintro e _ ⟨rfl, rfl⟩
  go_wp2_with fail
  refine (lives_any _).mono ?_
  rintro e w5 ⟨rfl, hb5⟩
  go_wp2_with fail
  go_ret
  exact ⟨rfl, below_chain hb14 hb5⟩

theorem u64_of_wf {x : Int} (h : (Lit.int .u64 x).wf = true) : 0 ≤ x ∧ x ≤ 18446744073709551615 := by
  simp [Lit.wf, IntKind.min, IntKind.max, IntKind.signed, IntKind.bits] at h
  exact ⟨by omega, by omega⟩
theorem i64_of_wf {x : Int} (h : (Lit.int .i64 x).wf = true) : x ≤ 9223372036854775807 := by
  simp [Lit.wf, IntKind.min, IntKind.max, IntKind.signed, IntKind.bits] at h
  omega

set_option maxRecDepth 100000 in
theorem lifted (os : Os) (started : os.Started) (H : Type) (enc : TypeId × Value → H) :
    ReturnsInHanded {} Try.checked os 3 .any (Rows.numPutsSpec.pre6 enc Try.prog Try.f3 Rows.numPutsRow.domain false) (Rows.numPutsSpec.post enc Try.prog Try.f3 false true false false) := by
  refine returnsInHanded_of_change_sized (C := Try.checked) own started (by kernel_rfl) Try.func3
    (ChangeSpec.witness6 (enc := enc) (C := Try.checked) false ⟨#[], #[.int .u64 0, .int .u64 0, .int .i64 0, .slice none 0 0, .int .i64 0, .int .i64 0], []⟩ 8 (by kernel_rfl) (by kernel_rfl) (by kernel_rfl) (by kernel_rfl)) ?_
  intro W base args ds gs before hval0 hW hcnd hsz0 _
  have hsz : (DataW.weightsEach Try.prog (Try.f3.params.toList ++ Rows.numPutsSpec.plain.varTypes Try.prog) (ds ++ gs)).all (· ≤ reachBytes) = true := hsz0
  clear hsz0
  have hval : ∀ (j : Nat) t v, Try.f3.params[j]? = some t → args[j]? = some v → Value.okWide Try.prog W .any base t v := hval0
  have hW' := hW
  obtain ⟨p, q, hA0, hV, rfl, hfz, hnd⟩ := hW
  have hA : DataW.TrodAll enc Try.prog W 0 (fun _ => true) true Try.f3.params.toList args.toList ds p := hA0
  rw [Try.params3] at hA hval hsz
  obtain ⟨v0, vs0, d0, ds0, p0, q0, hargs, rfl, rfl, h0, r0⟩ := trodAll_cons hA
  obtain ⟨v1, vs1, d1, ds1, p1, q1, rfl, rfl, rfl, h1, r1⟩ := trodAll_cons r0
  obtain ⟨v2, vs2, d2, ds2, p2, q2, rfl, rfl, rfl, h2, r2⟩ := trodAll_cons r1
  obtain ⟨v3, vs3, d3, ds3, p3, q3, rfl, rfl, rfl, h3, r3⟩ := trodAll_cons r2
  obtain ⟨v4, vs4, d4, ds4, p4, q4, rfl, rfl, rfl, h4, r4⟩ := trodAll_cons r3
  obtain ⟨v5, vs5, d5, ds5, p5, q5, rfl, rfl, rfl, h5, r5⟩ := trodAll_cons r4
  obtain ⟨rfl, rfl, rfl⟩ := trodAll_nil r5
  obtain rfl : args = #[v0, v1, v2, v3, v4, v5] := by cases args; simp_all
  obtain ⟨rfl, rfl⟩ := trodVars_none hV
  obtain ⟨a0, rfl, rfl, rfl, w0⟩ := open_int Try.underlying22 (hval 0 22 v0 rfl rfl) h0
  obtain ⟨a1, rfl, rfl, rfl, w1⟩ := open_int Try.underlying22 (hval 1 22 v1 rfl rfl) h1
  obtain ⟨a2, rfl, rfl, rfl, w2⟩ := open_int Try.underlying3 (hval 2 3 v2 rfl rfl) h2
  obtain ⟨a4, rfl, rfl, rfl, w4⟩ := open_int Try.underlying3 (hval 4 3 v4 rfl rfl) h4
  obtain ⟨a5, rfl, rfl, rfl, w5⟩ := open_int Try.underlying3 (hval 5 3 v5 rfl rfl) h5
  obtain ⟨A, l, c, rfl, hr, hnil, hlc, hcm, hd⟩ := open_came (hval 3 23 v3 rfl rfl) h3
  have k3 := h3
  have lt3 : ∀ x ∈ p3, x.block < W.heap.size := by obtain ⟨m, hm⟩ := k3; exact DataW.trod_lt m _ _ _ hm
  have hl : l.length + 3 ≤ 140737488355328 := by
    rcases hd with rfl | ⟨elems, spare, rfl, he, hc⟩
    · rcases A with _ | a
      · rw [(hnil rfl).1]; decide
      · obtain ⟨m, hm⟩ := h3
        rcases open_ints Try.underlying23 Try.underlying5 (by kernel_rfl) hm with ⟨hcs, _⟩ | ⟨x, len', cap', zs, _, _, _, _, _, hx, _⟩
        · simp [Value.cells] at hcs
        · simp at hx
    · have := sized_slice hsz (j := 3) (t := 23) (e := 5) rfl rfl Try.underlying23
      rw [Try_bytes5] at this
      simp only [reachBytes] at this
      omega
  obtain ⟨n0, n1⟩ := u64_of_wf w0
  obtain ⟨m0, m1⟩ := u64_of_wf w1
  clear hA0 hval0
  refine (walk a0 a1 a2 l A c a4 a5 W n0 n1 m0 m1 (i64_of_wf w5) hl hlc hr hnil).mono fun e W' ⟨he, bel⟩ => ?_
  subst he
  exact ⟨_, rfl, _, _, _, [], _, [], hW', trodAll_mk1 (shut_bool Try.underlying4 _), (trodAll_cons_mk (shut_int Try.underlying22 w0) (trodAll_cons_mk (shut_int Try.underlying22 w1) (trodAll_cons_mk (shut_int Try.underlying3 w2) (trodAll_cons_mk (Below.trod laidOut (by kernel_rfl) (of_decide_eq_true (by kernel_rfl)) k3 bel lt3) (trodAll_cons_mk (shut_int Try.underlying3 w4) (trodAll_cons_mk (shut_int Try.underlying3 w5) trodAll_mk0)))))), rfl, bel.frame _, fun h => by cases h⟩

theorem over : Rows.numPutsRow.holds Try.pinned (OpenSpec.ofChange Rows.numPutsSpec) :=
  OpenClaim.holds_of_wide 3 Try.f3 rfl rfl rfl rfl rfl rfl rfl ⟨rfl, rfl, rfl, rfl, rfl⟩ rfl rfl rfl rfl rfl (by kernel_rfl) Try.func3 (by kernel_rfl)
    (of_decide_eq_true (by kernel_rfl)) (by unfold Func.isWrapper; first | (rw [if_pos (by decide +kernel)]; kernel_rfl) | (rw [if_neg (by decide +kernel)]; exact ⟨rfl, rfl⟩))
    (fun os started H enc _ => lifted os started H enc)

theorem proved : Rows.NumPutsSaid := over

end Go.Proofs.Ytdlpnndoifdamaa.numPuts
