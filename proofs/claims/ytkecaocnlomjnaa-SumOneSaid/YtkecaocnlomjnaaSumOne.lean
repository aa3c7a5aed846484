/- SumOne: of bytes of one length of which one differs the sums differ. Proved for every input, with no condition. -/
import Derived.Test.YtkecaocnlomjnaaRef00
import Derived.Test.YtkecaocnlomjnaaSumLives
import Derived.ProofKit
import Derived.OpenShut
import Derived.ShutString
import Derived.ChangeOld
import Derived.Below
import Derived.SizedLaws
namespace Go.Proofs.Ytkecaocnlomjnaa.sumOne
open Go.RowKit Go.Shelf Go.ChangeShapes Go.WideShapes Go.ChangeAt
set_option linter.unusedVariables false

theorem own : ownKnob Try.prog.godebug = none := by kernel_rfl
theorem laidOut : laidOutB Try.prog = true := by kernel_rfl
theorem u8_of_wf {x : Int} (h : (Lit.int .u8 x).wf = true) : 0 ≤ x ∧ x < 256 := by
  simp [Lit.wf, IntKind.min, IntKind.max, IntKind.signed, IntKind.bits] at h
  exact ⟨by omega, by omega⟩
theorem i64_of_wf {x : Int} (h : (Lit.int .i64 x).wf = true) : -9223372036854775808 ≤ x ∧ x ≤ 9223372036854775807 := by
  simp [Lit.wf, IntKind.min, IntKind.max, IntKind.signed, IntKind.bits] at h
  exact ⟨by omega, by omega⟩

theorem takeN_inj (s : Nat) (c c' : Nat) (hs : s < 4294967296) (hc : c < 256) (hc' : c' < 256) (h : takeN s c = takeN s c') : c = c' := by
  have key : ∀ x : Nat, x < 4294967296 → x * 16777619 % 4294967296 * 899433627 % 4294967296 = x := fun x hx => by omega
  unfold takeN at h
  have h1 := key (s ^^^ c) (xor_lt32 hs (by omega))
  have h2 := key (s ^^^ c') (xor_lt32 hs (by omega))
  rw [h, h2] at h1
  have h3 := congrArg (s ^^^ ·) h1
  simp only [← Nat.xor_assoc, Nat.xor_self, Nat.zero_xor] at h3
  exact h3.symm
theorem moreN_inj (l : List UInt8) : ∀ s s' : Nat, s < 4294967296 → s' < 4294967296 → moreN s l = moreN s' l → s = s' := by
  induction l with
  | nil => intro s s' _ _ h; rwa [moreN_nil, moreN_nil] at h
  | cons c l ih =>
    intro s s' h1 h2 h
    rw [moreN_cons, moreN_cons] at h
    have e := ih _ _ (takeN_lt _ _) (takeN_lt _ _) h
    have e2 := congrArg (backN · c.toNat) e
    simp only [back_take _ _ h1 (u8_lt c), back_take _ _ h2 (u8_lt c)] at e2
    exact e2
theorem ofN_set (l : List UInt8) (k : Nat) (hk : k < l.length) (c : UInt8) (h : ofN (l.set k c) = ofN l) : c = l[k] := by
  have e1 : l.set k c = l.take k ++ c :: l.drop (k + 1) := List.set_eq_take_append_cons_drop .. |>.trans (by rw [if_pos hk])
  have e2 : l = l.take k ++ l[k] :: l.drop (k + 1) := by rw [← List.drop_eq_getElem_cons hk, List.take_append_drop]
  have h' : moreN (moreN 2166136261 (l.take k)) (c :: l.drop (k + 1)) = moreN (moreN 2166136261 (l.take k)) (l[k] :: l.drop (k + 1)) := by
    rw [← moreN_append, ← moreN_append, ← e1, ← e2]
    exact h
  rw [moreN_cons, moreN_cons] at h'
  have hm := moreN_lt 2166136261 (l.take k) (by decide)
  have h2 := moreN_inj _ _ _ (takeN_lt _ _) (takeN_lt _ _) h'
  have h3 := takeN_inj _ _ _ hm (u8_lt _) (u8_lt _) h2
  exact UInt8.toNat_inj.1 h3

/-- the block that is owned, whole -/
theorem own_block {W : World} {base g n cap : Nat} {xs : List Value} (h : W.ownsRow base 5 1 (.slice (some ⟨g, 0, none⟩) n cap) n xs) : base ≤ g ∧ ∃ cur, Cs W g 5 cur ∧ cur.toList.take n = xs := by
  rcases h.2 with ⟨h0, _⟩ | ⟨g', cap', cur, hv, hb, hc, _, _, _, ht⟩
  · cases h0
  · cases hv; exact ⟨hb, cur, hc, by rw [Nat.mul_one] at ht; exact ht⟩
theorem rd_set {W : World} {g : Nat} {cur : Array Value} {l : List UInt8} (h : Cs W g 5 cur) (ht : cur.toList.take l.length = cellsOf l) (k : Nat) (hk : k < l.length) (c : UInt8) :
    Rd (W.setCell ⟨g, k, none⟩ (.int .u8 (c.toNat : Int))) (some ⟨g, 0, none⟩) (l.set k c) := by
  refine .inr ⟨g, 0, rfl, fun j hj => ?_⟩
  rw [List.length_set] at hj
  have hsz : l.length ≤ cur.size := by
    have := congrArg List.length ht
    simp [cellsOf] at this
    omega
  rw [Nat.zero_add]
  refine (h.set k _).cell j ?_
  rw [Array.getElem?_setIfInBounds]
  by_cases e : k = j
  · subst e
    rw [if_pos rfl, if_pos (by omega), List.getElem_set_self]
  · rw [if_neg e, List.getElem_set_ne e]
    have h1 : (cur.toList.take l.length)[j]? = some (.int .u8 (l[j].toNat : Int)) := by
      rw [ht]
      simp [cellsOf, List.getElem?_eq_getElem hj]
    rw [List.getElem?_take_of_lt hj] at h1
    simpa using h1

set_option maxHeartbeats 400000 in
theorem walk_out (l : List UInt8) (A : Option Addr) (cp : Nat) (at' : Int) (by' : Nat) (w : World) (hl : l.length ≤ 140737488351232) (h : at' < 0 ∨ (0 ≤ at' ∧ (l.length : Int) ≤ at') ∨ (0 ≤ at' ∧ at' < (l.length : Int) ∧ 2000 < l.length)) :
    Calls Try.prog 6 #[.slice A l.length cp, .int .i64 at', .int .u8 (by' : Int)] w fun e w' => e = .returned (.bool true) ∧ Below w.heap.size w w' := by
  rcases h with h | ⟨h0, h⟩ | ⟨h0, h1, h⟩
  · go_enter Try.func6, Try.ntmps6
    go_wp2_with fail
    refine (lives_any _).mono ?_
    rintro e w1 ⟨rfl, hb1⟩
    go_wp2_with fail
    go_ret
    exact ⟨rfl, hb1⟩
  · have h0' : decide (at' < 0) = false := by simp; omega
    clear h0
    go_enter Try.func6, Try.ntmps6
    go_wp2_with fail
    refine (lives_any _).mono ?_
    rintro e w1 ⟨rfl, hb1⟩
    go_wp2_with fail
    go_ret
    exact ⟨rfl, hb1⟩
  · have h0' : decide (at' < 0) = false := by simp; omega
    have h1' : decide ((l.length : Int) ≤ at') = false := by simp; omega
    have h2' : (2000 : Int) < (l.length : Int) := by omega
    clear h0 h1 h
    go_enter Try.func6, Try.ntmps6
    go_wp2_with fail
    refine (lives_any _).mono ?_
    rintro e w1 ⟨rfl, hb1⟩
    go_wp2_with fail
    go_ret
    exact ⟨rfl, hb1⟩

set_option maxHeartbeats 1000000 in
theorem walk_in (l : List UInt8) (A : Option Addr) (cp k by' : Nat) (w : World) (hb : by' < 256) (hk : k < l.length) (hl : ¬ 2000 < l.length) (hr : Rd w A l) (hA : A = none → l = [] ∧ cp = 0) :
    Calls Try.prog 6 #[.slice A l.length cp, .int .i64 (k : Int), .int .u8 (by' : Int)] w fun e w' => e = .returned (.bool true) ∧ Below w.heap.size w w' := by
  have h0' : decide ((k : Int) < 0) = false := by simp
  have h1' : decide ((l.length : Int) ≤ (k : Int)) = false := by simp; omega
  have h2' : decide ((2000 : Int) < (l.length : Int)) = false := by simp; omega
  have hcopy := Copy_any l A cp w (by omega) hr hA
  have hxor : bits .xor .u8 (l[k].toNat : Int) (by' : Int) = (((l[k] ^^^ UInt8.ofNat by').toNat : Nat) : Int) := by
    rw [u8_xor_nat _ _ (u8_lt _) hb, UInt8.toNat_xor, UInt8.toNat_ofNat', Nat.mod_eq_of_lt (by omega)]
  have hkl : (k : Int) < (l.length : Int) := by omega
  have hcell : (l[k].toNat : Int) ≤ 255 := by have := u8_lt l[k]; omega
  have hne : by' ≠ 0 → ofN (l.set k (l[k] ^^^ UInt8.ofNat by')) ≠ ofN l := fun h0 h => by
    have e := ofN_set l k hk _ h
    have e2 := congrArg UInt8.toNat e
    rw [UInt8.toNat_xor, UInt8.toNat_ofNat', Nat.mod_eq_of_lt (by omega)] at e2
    have e3 := congrArg (l[k].toNat ^^^ ·) e2
    simp only [← Nat.xor_assoc, Nat.xor_self, Nat.zero_xor] at e3
    exact h0 e3
  have heq : by' = 0 → ofN (l.set k (l[k] ^^^ UInt8.ofNat by')) = ofN l := fun h0 => by
    subst h0
    rw [show l[k] ^^^ UInt8.ofNat 0 = l[k] from by apply UInt8.toNat_inj.1; rw [UInt8.toNat_xor]; exact Nat.xor_zero _, List.set_getElem_self]
  have hoa := fun (W : World) A c (h : Rd W A (l.set k (l[k] ^^^ UInt8.ofNat by'))) => Of_any (l.set k (l[k] ^^^ UInt8.ofNat by')) A c W (by rw [List.length_set]; omega) h
  have hob := fun W A c h => Of_any l A c W (by omega) h
  rw [List.length_set] at hoa
  generalize hX : l[k] ^^^ UInt8.ofNat by' = X at *
  clear hX
  have HX := Lib.hid hxor
  have HR := Lib.hid hr
  clear hxor hr hA hl
  have hl2 : l.length ≤ 2000 := by simp at h2'; omega
  go_enter Try.func6, Try.ntmps6
  go_wp2_with fail
  refine hcopy.mono ?_
  clear hcopy
  rintro e w1 ⟨v, rfl, hown, hb1⟩
  obtain ⟨g, cap, rfl, hcap, hcm⟩ := own_form hown (by omega)
  obtain ⟨hg, cur, hcs, ht⟩ := own_block hown
  have hsz := hb1.size
  unfold maxLen at hcm
  have hc1 : w1.cell? ⟨g, k, none⟩ = some (.int .u8 (l[k].toNat : Int)) := by
    have h := rd_at (own_rd hown) k hk
    obtain ⟨b, off, e, h⟩ := h
    cases e
    rwa [Nat.zero_add] at h
  have hf1 := hcs.frozen k
  have HS := Lib.hid (rd_set hcs ht k hk X)
  clear hown hcs ht
  go_wp2_with fail
  refine (hoa _ _ _ (by first | exact HS.out | (rw [HX.out]; exact HS.out))).mono ?_
  clear hoa
  rintro e _ ⟨rfl, rfl⟩
  have hb2 := fun u => hb1.setCell (p := ⟨g, k, none⟩) hg u
  have HB2 := Lib.hid hb2
  clear hb2
  go_wp2_with fail
  refine (hob _ _ _ (HR.out.below (HB2.out _))).mono ?_
  clear hob
  rintro e _ ⟨rfl, rfl⟩
  generalize ofN (l.set k X) = ox at *
  generalize ofN l = o at *
  by_cases h0 : by' = 0
  · obtain rfl := heq h0
    subst h0
    clear heq hne
    go_wp2_with fail
    refine (lives_any _).mono ?_
    rintro e w3 ⟨rfl, hb3⟩
    go_wp2_with fail
    go_ret
    exact ⟨rfl, below_chain (HB2.out _) hb3⟩
  · have hn := hne h0
    have e1 : ((ox : Int) == (o : Int)) = false := by simp; omega
    have e2 : ((by' : Int) == 0) = false := by simp; omega
    clear heq hne hn h0
    go_wp2_with fail
    refine (lives_any _).mono ?_
    rintro e w3 ⟨rfl, hb3⟩
    go_wp2_with fail
    go_ret
    exact ⟨rfl, below_chain (HB2.out _) hb3⟩

theorem walk (l : List UInt8) (A : Option Addr) (cp : Nat) (at' : Int) (by' : Nat) (w : World) (hb : by' < 256) (hl : l.length ≤ 140737488351232) (hr : Rd w A l) (hA : A = none → l = [] ∧ cp = 0) :
    Calls Try.prog 6 #[.slice A l.length cp, .int .i64 at', .int .u8 (by' : Int)] w fun e w' => e = .returned (.bool true) ∧ Below w.heap.size w w' := by
  by_cases h : at' < 0 ∨ (0 ≤ at' ∧ (l.length : Int) ≤ at') ∨ (0 ≤ at' ∧ at' < (l.length : Int) ∧ 2000 < l.length)
  · exact walk_out l A cp at' by' w hl h
  · obtain ⟨k, rfl⟩ := Int.eq_ofNat_of_zero_le (show 0 ≤ at' by omega)
    exact walk_in l A cp k by' w hb (by omega) (by omega) hr hA

set_option maxRecDepth 100000 in
theorem lifted (os : Os) (started : os.Started) (H : Type) (enc : TypeId × Value → H) :
    ReturnsInHanded {} Try.checked os 6 .any (Rows.sumOneSpec.pre6 enc Try.prog Try.f6 Rows.sumOneRow.domain false) (Rows.sumOneSpec.post enc Try.prog Try.f6 false true false false) := by
  refine returnsInHanded_of_change_sized (C := Try.checked) own started (by kernel_rfl) Try.func6
    (ChangeSpec.witness6 (enc := enc) (C := Try.checked) false ⟨#[], #[.slice none 0 0, .int .i64 0, .int .u8 0], []⟩ 8 (by kernel_rfl) (by kernel_rfl) (by kernel_rfl) (by kernel_rfl)) ?_
  intro W base args ds gs before hval0 hW hcnd hsz0 _
  have hsz : (DataW.weightsEach Try.prog (Try.f6.params.toList ++ Rows.sumOneSpec.plain.varTypes Try.prog) (ds ++ gs)).all (· ≤ reachBytes) = true := hsz0
  clear hsz0
  have hval : ∀ (j : Nat) t v, Try.f6.params[j]? = some t → args[j]? = some v → Value.okWide Try.prog W .any base t v := hval0
  have hW' := hW
  obtain ⟨p, q, hA0, hV, rfl, hfz, hnd⟩ := hW
  have hA : DataW.TrodAll enc Try.prog W 0 (fun _ => true) true Try.f6.params.toList args.toList ds p := hA0
  rw [Try.params6] at hA hval hsz
  obtain ⟨v0, vs0, d0, ds0, p0, q0, hargs, rfl, rfl, h0, r0⟩ := trodAll_cons hA
  obtain ⟨v1, vs1, d1, ds1, p1, q1, rfl, rfl, rfl, h1, r1⟩ := trodAll_cons r0
  obtain ⟨v2, vs2, d2, ds2, p2, q2, rfl, rfl, rfl, h2, r2⟩ := trodAll_cons r1
  obtain ⟨rfl, rfl, rfl⟩ := trodAll_nil r2
  obtain rfl : args = #[v0, v1, v2] := by cases args; simp_all
  obtain ⟨rfl, rfl⟩ := trodVars_none hV
  obtain ⟨A0, l0, c0, cm0⟩ := open_came (hval 0 23 v0 rfl rfl) h0
  have nn0 : d0 = .nil → l0 = [] := nil_came h0 cm0
  have hl0 : l0.length ≤ 140737488351232 := by
    obtain ⟨-, -, -, -, -, hd⟩ := cm0
    rcases hd with hd | ⟨elems, spare, rfl, he, hc⟩
    · rw [nn0 hd]; decide
    · have := sized_slice hsz (j := 0) (t := 23) (e := 5) rfl rfl Try.underlying23
      rw [Try_bytes5] at this
      simp only [reachBytes] at this
      omega
  obtain ⟨rfl, rd0, nil0, hlc0, hcm0, -⟩ := cm0
  have lt0 : ∀ x ∈ p0, x.block < W.heap.size := by obtain ⟨m, hm⟩ := h0; exact DataW.trod_lt m _ _ _ hm
  obtain ⟨a1, rfl, rfl, rfl, w1⟩ := open_int Try.underlying3 (hval 1 3 v1 rfl rfl) h1
  obtain ⟨lo1, hi1⟩ := i64_of_wf w1
  obtain ⟨a2, rfl, rfl, rfl, w2⟩ := open_int Try.underlying5 (hval 2 5 v2 rfl rfl) h2
  obtain ⟨n2, rfl⟩ := Int.eq_ofNat_of_zero_le (u8_of_wf w2).1
  have hi2 : n2 < 256 := by have := (u8_of_wf w2).2; omega
  clear hA0 hval0
  refine (walk l0 A0 c0 a1 n2 W hi2 hl0 rd0 nil0).mono fun e W' ⟨he, bel⟩ => ?_
  subst he
  exact ⟨_, rfl, _, _, _, [], _, [], hW', trodAll_mk1 (shut_bool Try.underlying4 _), (trodAll_cons_mk (Below.trod laidOut (by kernel_rfl) (of_decide_eq_true (by kernel_rfl)) h0 bel lt0) (trodAll_cons_mk (shut_int Try.underlying3 w1) (trodAll_cons_mk (shut_int Try.underlying5 w2) trodAll_mk0))), rfl, bel.frame _, fun h => by cases h⟩

theorem over : Rows.sumOneRow.holds Try.pinned (OpenSpec.ofChange Rows.sumOneSpec) :=
  OpenClaim.holds_of_wide 6 Try.f6 rfl rfl rfl rfl rfl rfl rfl ⟨rfl, rfl, rfl, rfl, rfl⟩ rfl rfl rfl rfl rfl (by kernel_rfl) Try.func6 (by kernel_rfl)
    (of_decide_eq_true (by kernel_rfl)) (by unfold Func.isWrapper; first | (rw [if_pos (by decide +kernel)]; kernel_rfl) | (rw [if_neg (by decide +kernel)]; exact ⟨rfl, rfl⟩))
    (fun os started H enc _ => lifted os started H enc)

theorem proved : Rows.SumOneSaid := over

end Go.Proofs.Ytkecaocnlomjnaa.sumOne
