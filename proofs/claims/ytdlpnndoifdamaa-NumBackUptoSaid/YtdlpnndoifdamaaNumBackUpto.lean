/- NumBack in its second form: what is put is got, wherever it stands. Proved for every input whose lists are together of bulk at most 1048576 values and letters. -/
import Derived.Test.YtdlpnndoifdamaaNumOpen
import Derived.Test.YtdlpnndoifdamaaNumRises
import Derived.JoinedCond
namespace Go.Proofs.Ytdlpnndoifdamaa.numBack
open Go.RowKit Go.Shelf Go.ChangeShapes Go.WideShapes Go.ChangeAt
set_option linter.unusedVariables false

theorem own : ownKnob Try.prog.godebug = none := by kernel_rfl
theorem laidOut : laidOutB Try.prog = true := by kernel_rfl

/-- append of bytes that read as l, nil or not, to a slice of the call's own -/
theorem append_rd {w : World} {ops : Array Oper} {rest : List Oper} {o : Oper} {a : Act} {Q : Exit → Act → World → Prop} (hgd : o.guard = none) (s x : Operand)
    (ho : o.op = .call { callee := .builtin .append, args := #[s, x], argTypes := #[23, 23] })
    (base : Nat) (v : Value) (n : Nat) (xs : List UInt8) (hs : a.eval s = v) (hown : w.ownsRow base 5 1 v n (cellsOf xs))
    (A : Option Addr) (l : List UInt8) (m c : Nat) (hm : m = l.length) (hx : a.eval x = .slice A m c) (hr : Rd w A l) (hA : A = none → l = [] ∧ c = 0) (hb : n + m ≤ 140737488355328) (hbase : base ≤ w.heap.size)
    (h : ∀ v' w', w'.ownsRow base 5 1 v' (n + m) (cellsOf (xs ++ l)) → w.grownBy w' v.ownBlock → wpList Try.prog ops Q rest (a.put o.dst v') w') : wpList Try.prog ops Q (o :: rest) a w := by
  obtain ⟨i0, hi, hz0, hz1, hz2⟩ := info_parts Try_info5
  subst hm
  rcases A with _ | ad
  · obtain ⟨rfl, rfl⟩ := hA rfl
    refine wpList_append_own_none hgd s x 23 ho base 5 i0 1 Try.underlying23 hi v n (cellsOf xs) hs hown hx ?_
    refine h v w ?_ (World.grownBy.refl w _)
    rw [List.append_nil]
    exact hown
  · refine wpList_append_own w hgd s x 23 ho base 5 i0 (.int .u8 0) 1 1 Try.underlying23 hi hz0 hz1 hz2 rfl (by decide) v n (cellsOf xs) hs hown ad l.length c (cellsOf l) hx (by rw [cellsOf_length, Nat.mul_one]) (rd_cells hr) (cellsOf_one l) (by simp only [maxLen]; omega) (by omega) hbase ?_
    intro v' w' h1 h2 _
    rw [← cellsOf_append] at h1
    exact h v' w' h1 h2

/-- the digits of x, k of them, tell x again -/
theorem digits (x : Int) : ∀ k : Nat, beSum ((List.range k).map fun j => x / 256 ^ (k - 1 - j) % 256) = x % 256 ^ k
  | 0 => by simp [beSum]
  | k + 1 => by
    have hP := numRises.pow_pos k
    rw [List.range_succ_eq_map, List.map_cons, List.map_map]
    simp only [beSum, List.length_map, List.length_range]
    have e : (List.range k).map ((fun j => x / 256 ^ (k + 1 - 1 - j) % 256) ∘ Nat.succ) = (List.range k).map fun j => x / 256 ^ (k - 1 - j) % 256 := by
      apply List.map_congr_left
      intro j hj
      have : k + 1 - 1 - (j + 1) = k - 1 - j := by omega
      simp only [Function.comp, Nat.succ_eq_add_one, this]
    rw [e, digits x k, Int.pow_succ, numRises.cut x _ hP]
    rfl

theorem seg_put (p q : List UInt8) (x : Int) (k : Nat) (hs : sizeB k = true) (x0 : 0 ≤ x) (x1 : x ≤ 18446744073709551615) (hf : fitsB x k = true) : beSum (seg (p ++ beL x k ++ q) p.length k) = x := by
  have e : seg (p ++ beL x k ++ q) p.length k = (List.range k).map fun j => x / 256 ^ (k - 1 - j) % 256 := by
    apply List.map_congr_left
    intro j hj
    have hj' : j < k := List.mem_range.1 hj
    have hb : 0 ≤ x / 256 ^ (k - 1 - j) % 256 ∧ x / 256 ^ (k - 1 - j) % 256 < 256 := by omega
    have e1 : (p ++ beL x k ++ q)[p.length + j]? = some (UInt8.ofNat (x / 256 ^ (k - 1 - j) % 256).toNat) := by
      rw [List.append_assoc, List.getElem?_append_right (by omega), Nat.add_sub_cancel_left, List.getElem?_append_left (by rw [beL_length]; exact hj')]
      simp [beL, hj']
    unfold byteAt
    rw [List.getD, e1, Option.getD_some, UInt8.toNat_ofNat']
    omega
  rw [e, digits, numRises.fits_lt x k hs x0 x1 hf]

theorem getV_put (p q : List UInt8) (x : Int) (k : Nat) (hs : sizeB k = true) (x0 : 0 ≤ x) (x1 : x ≤ 18446744073709551615) (hf : fitsB x k = true) : getV (p ++ beL x k ++ q) (p.length : Int) (k : Int) = .tuple #[.int .u64 x, .int .i64 0] := by
  have hlen : (p ++ beL x k ++ q).length = p.length + k + q.length := by simp [beL_length]; omega
  unfold getV
  rw [if_neg (by simp [hs, placeB]; omega), if_neg (by rw [hlen]; omega), Int.toNat_natCast, Int.toNat_natCast, seg_put p q x k hs x0 x1 hf]
theorem getV_cut (l : List UInt8) (a k : Nat) (hs : sizeB k = true) (hl : l.length = a + k - 1) (hk : 1 ≤ k) : getV l (a : Int) (k : Int) = .tuple #[.int .u64 0, .int .i64 4] := by
  unfold getV
  rw [if_neg (by simp [hs, placeB, hl]; omega), if_pos (by rw [hl]; omega)]

theorem own_form {W : World} {base n : Nat} {e : TypeId} {v : Value} {xs : List Value} (h : W.ownsRow base e 1 v n xs) (hn : 1 ≤ n) : ∃ g cap, v = .slice (some ⟨g, 0, none⟩) n cap ∧ n ≤ cap ∧ cap ≤ maxLen := by
  rcases h.2 with ⟨_, h0⟩ | ⟨g, cap, cur, hv, _, _, h1, h2, _⟩
  · omega
  · exact ⟨g, cap, hv, h1, h2⟩

theorem rd_take {W : World} {A : Option Addr} {l : List UInt8} (h : Rd W A l) (m : Nat) : Rd W A (l.take m) :=
  rd_prefix (q := l.drop m) (by rw [List.take_append_drop]; exact h)

theorem walk_no (n s : Int) (n0 : 0 ≤ n) (n1 : n ≤ 18446744073709551615) (h : sizeB s = false ∨ fitsB n s = false) (A1 A2 : Option Addr) (l1 l2 c1 c2 : Nat) (w : World) :
    Calls Try.prog 4 #[.int .u64 n, .int .i64 s, .slice A1 l1 c1, .slice A2 l2 c2] w fun e w' => e = .returned (.bool true) ∧ Below w.heap.size w w' := by
  have P := Put_no n s n0 n1 w h
  clear h
  go_enter Try.func4, Try.ntmps4
  go_wp2_with fail
  refine P.mono ?_
  clear P
  rintro e w1 ⟨rfl, hb1⟩
  go_wp2_with fail
  refine (lives_any _).mono ?_
  rintro e w2 ⟨rfl, hb2⟩
  go_wp2_with fail
  go_ret
  exact ⟨rfl, below_chain hb1 hb2⟩

set_option maxHeartbeats 1000000 in
theorem walk_yes (n : Int) (k : Nat) (hs : sizeB k = true) (n0 : 0 ≤ n) (n1 : n ≤ 18446744073709551615) (hf : fitsB n k = true) (A1 A2 : Option Addr) (l1 l2 : List UInt8) (c1 c2 : Nat) (w : World)
    (r1 : Rd w A1 l1) (r2 : Rd w A2 l2) (a1 : A1 = none → l1 = [] ∧ c1 = 0) (a2 : A2 = none → l2 = [] ∧ c2 = 0) (hl : l1.length + l2.length ≤ 1048576) :
    Calls Try.prog 4 #[.int .u64 n, .int .i64 k, .slice A1 l1.length c1, .slice A2 l2.length c2] w fun e w' => e = .returned (.bool true) ∧ Below w.heap.size w w' := by
  have hk := size_bd hs
  obtain ⟨hk1, hk8⟩ := hk
  have P := Put_ok n k hs n0 n1 w hf
  have G1 := Lib.hid (getV_put l1 l2 n k hs n0 n1 hf)
  have G2 := Lib.hid hs
  clear hs hf
  go_enter Try.func4, Try.ntmps4
  go_wp2_with fail
  refine P.mono ?_
  clear P
  rintro e w1 ⟨rfl, hb1, hrp⟩
  have hrl : k = (beL n k).length := (beL_length n k).symm
  have s1 := Lib.hid (r1.below hb1)
  have s2 := Lib.hid (r2.below hb1)
  have s3 := Lib.hid hrp
  have b1 := Lib.hid a1
  have b2 := Lib.hid a2
  have HL := Lib.hid hrl
  have hsz1 := hb1.size
  clear r1 r2 hrp a1 a2 hrl
  have hlt : decide ((k : Int) < 1) = false := by simp; omega
  go_wp2_with (first | (at_builtin; refine append_rd rfl (.tmp 38) (.tmp 39) rfl w1.heap.size (.slice none 0 0) 0 [] rfl (World.ownsRow_nil _ _ _ _) A1 l1 l1.length c1 rfl rfl s1.out b1.out (by omega) (Nat.le_refl _) ?_; intro v2 w2 hown2 hgrow2; have q2 := (Below.refl w1.heap.size w1).grown hgrow2 (Nat.le_refl _) (fun k e => by cases e); have z2 := q2.size; simp only [Nat.zero_add, List.nil_append] at hown2; have t2 := Lib.hid (s2.out.below q2); have t3 := Lib.hid (s3.out.below q2)) | (at_builtin; refine append_rd rfl (.tmp 41) (.tmp 42) rfl w1.heap.size v2 l1.length l1 rfl hown2 (some ⟨w.heap.size + 1, 0, none⟩) (beL n k) k k HL.out rfl t3.out (fun h => by cases h) (by omega) (by omega) ?_; intro v3 w3 hown3 hgrow3; have q3 := q2.grown hgrow3 (by omega) (own_base hown2); have z3 := q3.size; have u2 := Lib.hid (s2.out.below q3)) | (at_builtin; refine append_rd rfl (.tmp 44) (.tmp 45) rfl w1.heap.size v3 (l1.length + k) (l1 ++ beL n k) rfl hown3 A2 l2 l2.length c2 rfl rfl u2.out b2.out (by omega) (by omega) ?_; intro v4 w4 hown4 hgrow4; have q4 := q3.grown hgrow4 (by omega) (own_base hown3); obtain ⟨g, cap, rfl, hcap, hcm⟩ := own_form hown4 (by omega)))
  have hN : (l1 ++ beL n k ++ l2).length = l1.length + k + l2.length := by simp [beL_length]; omega
  have hrd := own_rd hown4
  have hget := Get_any (l1 ++ beL n k ++ l2) (some ⟨g, 0, none⟩) cap l1.length k w4 (by rw [hN]; unfold maxLen; omega) (by rw [hN]; omega) hrd
  rw [hN, G1.out] at hget
  have HN := Lib.hid hN
  have HR := Lib.hid hrd
  have hcm' := hcm
  unfold maxLen at hcm'
  clear hN hrd hown2 hown3 hown4 hgrow2 hgrow3 hgrow4
  refine hget.mono ?_
  clear hget
  rintro e w5 ⟨rfl, hb5⟩
  have hcut : ((l1.length : Int) + k - 1).toNat = l1.length + k - 1 := by omega
  have h0 : 0 ≤ (l1.length : Int) + k - 1 := by omega
  have h1 : (l1.length : Int) + k - 1 ≤ cap := by omega
  have hL : ((l1 ++ beL n k ++ l2).take (l1.length + k - 1)).length = l1.length + k - 1 := by rw [List.length_take, HN.out]; omega
  have hget2 := Get_any ((l1 ++ beL n k ++ l2).take (l1.length + k - 1)) (some ⟨g, 0, none⟩) cap l1.length k w5 (by rw [hL]; unfold maxLen; omega) (by rw [hL]; omega) (rd_take (HR.out.below hb5) _)
  rw [getV_cut _ l1.length k G2.out hL (by omega), hL] at hget2
  clear hL
  go_wp2_with fail
  refine hget2.mono ?_
  clear hget2
  rintro e w6 ⟨rfl, hb6⟩
  go_wp2_with fail
  refine (lives_any _).mono ?_
  rintro e w7 ⟨rfl, hb7⟩
  go_wp2_with fail
  go_ret
  exact ⟨rfl, below_chain (below_chain (below_chain (below_chain hb1 q4) hb5) hb6) hb7⟩

theorem walk (n s : Int) (n0 : 0 ≤ n) (n1 : n ≤ 18446744073709551615) (A1 A2 : Option Addr) (l1 l2 : List UInt8) (c1 c2 : Nat) (w : World)
    (r1 : Rd w A1 l1) (r2 : Rd w A2 l2) (a1 : A1 = none → l1 = [] ∧ c1 = 0) (a2 : A2 = none → l2 = [] ∧ c2 = 0) (hl : l1.length + l2.length ≤ 1048576) :
    Calls Try.prog 4 #[.int .u64 n, .int .i64 s, .slice A1 l1.length c1, .slice A2 l2.length c2] w fun e w' => e = .returned (.bool true) ∧ Below w.heap.size w w' := by
  by_cases h : sizeB s = false ∨ fitsB n s = false
  · exact walk_no n s n0 n1 h A1 A2 _ _ c1 c2 w
  · have hs : sizeB s = true := by
      rcases h1 : sizeB s with _ | _
      · exact absurd (.inl h1) h
      · rfl
    have hf : fitsB n s = true := by
      rcases h1 : fitsB n s with _ | _
      · exact absurd (.inr h1) h
      · rfl
    obtain ⟨k, rfl⟩ := Int.eq_ofNat_of_zero_le (show 0 ≤ s by have := size_bd hs; omega)
    exact walk_yes n k hs n0 n1 hf A1 A2 l1 l2 c1 c2 w r1 r2 a1 a2 hl

/-- what the bound gives of a list that came in -/
theorem came_le {H : Type} {W : World} {v : Value} {d : DataW H} {A : Option Addr} {l : List UInt8} {c : Nat} (h : Came W v d A l c) (hd : d = .nil → l = []) : l.length ≤ Rows.uptoBulk d := by
  have len : ∀ q : List (DataW H), q.length ≤ Rows.uptoBulkAll q := by
    intro q
    induction q with
    | nil => simp [Rows.uptoBulkAll]
    | cons x r ih =>
      have h1 : 1 ≤ Rows.uptoBulk x := by
        cases x with
        | lit y => cases y <;> simp [Rows.uptoBulk]
        | _ => simp [Rows.uptoBulk]
      simp only [Rows.uptoBulkAll, List.length_cons]
      omega
  rcases h.2.2.2.2.2 with rfl | ⟨elems, spare, rfl, he, _⟩
  · rw [hd rfl]; simp
  · have := len elems
    simp only [Rows.uptoBulk]
    omega

theorem u64_of_wf {x : Int} (h : (Lit.int .u64 x).wf = true) : 0 ≤ x ∧ x ≤ 18446744073709551615 := by
  simp [Lit.wf, IntKind.min, IntKind.max, IntKind.signed, IntKind.bits] at h
  exact ⟨by omega, by omega⟩

theorem contract (H : Type) (enc : TypeId × Value → H) (W : World) (base : Nat) (args : Array Value) (ds gs : List (DataW H)) (before : List MemPlace)
    (hval : ∀ (j : Nat) t v, Try.f4.params[j]? = some t → args[j]? = some v → Value.okWide Try.prog W .any base t v)
    (hW : DataW.Whole enc Try.prog Try.f4.params.toList Rows.numBackSpec.vars false W args.toList ds gs before) (hk : Rows.uptoSmall H (ds ++ gs) = true) :
    Calls Try.prog 4 args W fun e W' => ∃ v, e = .returned v ∧ Rows.numBackSpec.post enc Try.prog Try.f4 false true false false W args v W' := by
  have hW' := hW
  obtain ⟨p, q, hA0, hV, rfl, hfz, hnd⟩ := hW
  have hA : DataW.TrodAll enc Try.prog W 0 (fun _ => true) true Try.f4.params.toList args.toList ds p := hA0
  rw [Try.params4] at hA hval
  obtain ⟨v0, vs0, d0, ds0, p0, q0, hargs, rfl, rfl, h0, r0⟩ := trodAll_cons hA
  obtain ⟨v1, vs1, d1, ds1, p1, q1, rfl, rfl, rfl, h1, r1⟩ := trodAll_cons r0
  obtain ⟨v2, vs2, d2, ds2, p2, q2, rfl, rfl, rfl, h2, r2⟩ := trodAll_cons r1
  obtain ⟨v3, vs3, d3, ds3, p3, q3, rfl, rfl, rfl, h3, r3⟩ := trodAll_cons r2
  obtain ⟨rfl, rfl, rfl⟩ := trodAll_nil r3
  obtain rfl : args = #[v0, v1, v2, v3] := by cases args; simp_all
  obtain ⟨rfl, rfl⟩ := trodVars_none hV
  obtain ⟨a0, rfl, rfl, rfl, w0⟩ := open_int Try.underlying22 (hval 0 22 v0 rfl rfl) h0
  obtain ⟨a1, rfl, rfl, rfl, w1⟩ := open_int Try.underlying3 (hval 1 3 v1 rfl rfl) h1
  obtain ⟨A1, l1, c1, cm1⟩ := open_came (hval 2 23 v2 rfl rfl) h2
  obtain ⟨A2, l2, c2, cm2⟩ := open_came (hval 3 23 v3 rfl rfl) h3
  have n2 : d2 = .nil → l1 = [] := nil_came h2 cm1
  have n3 : d3 = .nil → l2 = [] := nil_came h3 cm2
  have b2 := came_le cm1 n2
  have b3 := came_le cm2 n3
  obtain ⟨rfl, rd1, nil1, hlc1, hcm1, -⟩ := cm1
  obtain ⟨rfl, rd2, nil2, hlc2, hcm2, -⟩ := cm2
  have hl : l1.length + l2.length ≤ 1048576 := by
    have h := of_decide_eq_true hk
    simp only [Rows.uptoBulkAll, List.append_nil] at h
    omega
  have lt2 : ∀ x ∈ p2, x.block < W.heap.size := by obtain ⟨m, hm⟩ := h2; exact DataW.trod_lt m _ _ _ hm
  have lt3 : ∀ x ∈ p3, x.block < W.heap.size := by obtain ⟨m, hm⟩ := h3; exact DataW.trod_lt m _ _ _ hm
  obtain ⟨n0, n1⟩ := u64_of_wf w0
  clear hA0
  refine (walk a0 a1 n0 n1 A1 A2 l1 l2 c1 c2 W rd1 rd2 nil1 nil2 hl).mono fun e W' ⟨he, bel⟩ => ?_
  subst he
  exact ⟨_, rfl, _, _, _, [], _, [], hW', trodAll_mk1 (shut_bool Try.underlying4 _), (trodAll_cons_mk (shut_int Try.underlying22 w0) (trodAll_cons_mk (shut_int Try.underlying3 w1) (trodAll_cons_mk (Below.trod laidOut (by kernel_rfl) (of_decide_eq_true (by kernel_rfl)) h2 bel lt2) (trodAll_cons_mk (Below.trod laidOut (by kernel_rfl) (of_decide_eq_true (by kernel_rfl)) h3 bel lt3) trodAll_mk0)))), rfl, bel.frame _, fun h => by cases h⟩

set_option maxRecDepth 100000 in
theorem lifted (os : Os) (started : os.Started) (H : Type) (enc : TypeId × Value → H) (F : Stop.Interp) :
    ReturnsInHanded {} Try.checked os 4 .any ((Rows.OpenSpec.upto Rows.numBackSpec).pre6 enc Try.prog Try.f4 Rows.numBackUptoRow.domain false) (((Rows.OpenSpec.upto Rows.numBackSpec).at F).post enc Try.prog Try.f4 false true false false) := by
  refine returnsInHanded_of_cond (C := Try.checked) (s := Rows.OpenSpec.upto Rows.numBackSpec) (k := Rows.uptoSmall) rfl own started (by kernel_rfl) Try.func4
    (OpenSpec.witness (enc := enc) (C := Try.checked) (s := Rows.OpenSpec.upto Rows.numBackSpec) (k := Rows.uptoSmall) rfl false ⟨#[], #[.int .u64 0, .int .i64 0, .slice none 0 0, .slice none 0 0], []⟩ 8 (by kernel_rfl) (by kernel_rfl) (by kernel_rfl)
      (x := ([.lit (.int .u64 0), .lit (.int .i64 0), .nil, .nil], [], [])) (by kernel_rfl) rfl (by kernel_rfl)) ?_
  intro W base args ds gs before hval hW _ hk _
  exact contract H enc W base args ds gs before hval hW hk

theorem proved : Rows.NumBackUptoSaid :=
  OpenClaim.holds_of_cond 4 Try.f4 rfl rfl rfl rfl rfl rfl rfl ⟨rfl, rfl, rfl, rfl, rfl⟩ rfl rfl rfl rfl rfl (by kernel_rfl) Try.func4 (by kernel_rfl)
    (of_decide_eq_true (by kernel_rfl)) (by unfold Func.isWrapper; first | (rw [if_pos (by decide +kernel)]; kernel_rfl) | (rw [if_neg (by decide +kernel)]; exact ⟨rfl, rfl⟩))
    (fun os started H enc _ F => lifted os started H enc F)

end Go.Proofs.Ytdlpnndoifdamaa.numBack
