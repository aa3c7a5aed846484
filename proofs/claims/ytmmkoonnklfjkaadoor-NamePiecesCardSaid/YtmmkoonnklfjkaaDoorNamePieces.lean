/- NamePieces: of two texts that are well formed the one behind the other has as many runes as both; of one that is not, with others around it that are, there are none. Proved for every input; condition: the two tables of the library for decoding as its own text lays them. -/
import Derived.Test.YtmmkoonnklfjkaaDoorNameRow
namespace Go.Proofs.YtmmkoonnklfjkaaDoor.namePieces
open Go.RowKit Go.Shelf Go.Lib Go.ChangeShapes Go.WideShapes Go.ChangeAt
open Go.ChangeMaps (open_string shut_string)
set_option linter.unusedVariables false


set_option maxHeartbeats 1000000 in
theorem walk_both (a b : ByteArray) (x y : Nat) (hsa : a.size ≤ 140737488355328) (hsb : b.size ≤ 140737488355328) (ha : runesL (L a) = some x) (hb : runesL (L b) = some y) (w : World) (hT : Tabs w) :
    Calls Tryd.prog 6 #[.string a, .string b] w fun e w' => e = .returned (.bool true) ∧ Below w.heap.size w w' := by
  have hab : (a ++ b).size = a.size + b.size := ByteArray.size_append
  have hL : L (a ++ b) = L a ++ L b := by simp only [L]; rw [ByteArray.data_append, Array.toList_append]
  have hr1 := fun W h => Runes_any a (by omega) W h
  have hr2 := fun W h => Runes_any b (by omega) W h
  have hr3 := fun W h => Runes_any (a ++ b) (by omega) W h
  rw [runesV_some ha] at hr1
  rw [runesV_some hb] at hr2
  rw [hL, runesV_some (runes_both ha hb)] at hr3
  have hx : x ≤ a.size := by rw [L_size]; exact runesL_le _ _ _ ha
  have hy : y ≤ b.size := by rw [L_size]; exact runesL_le _ _ _ hb
  have hz : ((x + y : Nat) : Int) = (x : Int) + (y : Int) := by omega
  rw [hz] at hr3
  have HT := Lib.hid hT
  clear hT hL hab ha hb hz
  go_enter Tryd.func6, Tryd.ntmps6
  go_wp2_with fail
  refine (hr1 _ HT.out).mono ?_
  clear hr1
  rintro e w1 ⟨rfl, hb1⟩
  go_wp2_with fail
  refine (hr2 _ (HT.out.below hb1)).mono ?_
  clear hr2
  rintro e w2 ⟨rfl, hb2⟩
  have hb2 := below_chain hb1 hb2
  go_wp2_with fail
  refine (hr3 _ (HT.out.below hb2)).mono ?_
  clear hr3
  rintro e w3 ⟨rfl, hb3⟩
  have hb3 := below_chain hb2 hb3
  go_wp2_with fail
  refine (lives_any _ (HT.out.below hb3)).mono ?_
  rintro e w4 ⟨rfl, hb4⟩
  go_wp2_with fail
  go_ret
  exact ⟨rfl, below_chain hb3 hb4⟩

set_option maxHeartbeats 1000000 in
theorem walk_left (a b : ByteArray) (x : Nat) (hsa : a.size ≤ 140737488355328) (hsb : b.size ≤ 140737488355328) (ha : runesL (L a) = some x) (hb : runesL (L b) = none) (w : World) (hT : Tabs w) :
    Calls Tryd.prog 6 #[.string a, .string b] w fun e w' => e = .returned (.bool true) ∧ Below w.heap.size w w' := by
  have hab : (a ++ b).size = a.size + b.size := ByteArray.size_append
  have hL : L (a ++ b) = L a ++ L b := by simp only [L]; rw [ByteArray.data_append, Array.toList_append]
  have hr1 := fun W h => Runes_any a (by omega) W h
  have hr2 := fun W h => Runes_any b (by omega) W h
  have hr3 := fun W h => Runes_any (a ++ b) (by omega) W h
  rw [runesV_some ha] at hr1
  rw [runesV_none hb] at hr2
  rw [hL, runesV_none (runes_left ha hb)] at hr3
  have HT := Lib.hid hT
  clear hT hL hab ha hb
  go_enter Tryd.func6, Tryd.ntmps6
  go_wp2_with fail
  refine (hr1 _ HT.out).mono ?_
  clear hr1
  rintro e w1 ⟨rfl, hb1⟩
  go_wp2_with fail
  refine (hr2 _ (HT.out.below hb1)).mono ?_
  clear hr2
  rintro e w2 ⟨rfl, hb2⟩
  have hb2 := below_chain hb1 hb2
  go_wp2_with fail
  refine (hr3 _ (HT.out.below hb2)).mono ?_
  clear hr3
  rintro e w3 ⟨rfl, hb3⟩
  have hb3 := below_chain hb2 hb3
  go_wp2_with fail
  refine (lives_any _ (HT.out.below hb3)).mono ?_
  rintro e w4 ⟨rfl, hb4⟩
  go_wp2_with fail
  go_ret
  exact ⟨rfl, below_chain hb3 hb4⟩

set_option maxHeartbeats 1000000 in
theorem walk_right (a b : ByteArray) (y : Nat) (hsa : a.size ≤ 140737488355328) (hsb : b.size ≤ 140737488355328) (ha : runesL (L a) = none) (hb : runesL (L b) = some y) (w : World) (hT : Tabs w) :
    Calls Tryd.prog 6 #[.string a, .string b] w fun e w' => e = .returned (.bool true) ∧ Below w.heap.size w w' := by
  have hab : (a ++ b).size = a.size + b.size := ByteArray.size_append
  have hL : L (a ++ b) = L a ++ L b := by simp only [L]; rw [ByteArray.data_append, Array.toList_append]
  have hr1 := fun W h => Runes_any a (by omega) W h
  have hr2 := fun W h => Runes_any b (by omega) W h
  have hr3 := fun W h => Runes_any (a ++ b) (by omega) W h
  rw [runesV_none ha] at hr1
  rw [runesV_some hb] at hr2
  rw [hL, runesV_none (runes_right ha hb)] at hr3
  have HT := Lib.hid hT
  clear hT hL hab ha hb
  go_enter Tryd.func6, Tryd.ntmps6
  go_wp2_with fail
  refine (hr1 _ HT.out).mono ?_
  clear hr1
  rintro e w1 ⟨rfl, hb1⟩
  go_wp2_with fail
  refine (hr2 _ (HT.out.below hb1)).mono ?_
  clear hr2
  rintro e w2 ⟨rfl, hb2⟩
  have hb2 := below_chain hb1 hb2
  go_wp2_with fail
  refine (hr3 _ (HT.out.below hb2)).mono ?_
  clear hr3
  rintro e w3 ⟨rfl, hb3⟩
  have hb3 := below_chain hb2 hb3
  go_wp2_with fail
  refine (lives_any _ (HT.out.below hb3)).mono ?_
  rintro e w4 ⟨rfl, hb4⟩
  go_wp2_with fail
  go_ret
  exact ⟨rfl, below_chain hb3 hb4⟩

set_option maxHeartbeats 1000000 in
theorem walk_none (a b : ByteArray) (hsa : a.size ≤ 140737488355328) (hsb : b.size ≤ 140737488355328) (ha : runesL (L a) = none) (hb : runesL (L b) = none) (w : World) (hT : Tabs w) :
    Calls Tryd.prog 6 #[.string a, .string b] w fun e w' => e = .returned (.bool true) ∧ Below w.heap.size w w' := by
  have hab : (a ++ b).size = a.size + b.size := ByteArray.size_append
  have hL : L (a ++ b) = L a ++ L b := by simp only [L]; rw [ByteArray.data_append, Array.toList_append]
  have hr1 := fun W h => Runes_any a (by omega) W h
  have hr2 := fun W h => Runes_any b (by omega) W h
  have hr3 := fun W h => Runes_any (a ++ b) (by omega) W h
  rw [runesV_none ha] at hr1
  rw [runesV_none hb] at hr2
  rw [hL] at hr3
  generalize hV : runesV (L a ++ L b) = V at *
  obtain ⟨n, t, rfl⟩ : ∃ n t, V = .tuple #[.int .i64 n, .bool t] := by
    rw [← hV]
    unfold runesV
    split
    · exact ⟨_, _, rfl⟩
    · exact ⟨_, _, rfl⟩
  have HT := Lib.hid hT
  clear hT hL hab ha hb hV
  go_enter Tryd.func6, Tryd.ntmps6
  go_wp2_with fail
  refine (hr1 _ HT.out).mono ?_
  clear hr1
  rintro e w1 ⟨rfl, hb1⟩
  go_wp2_with fail
  refine (hr2 _ (HT.out.below hb1)).mono ?_
  clear hr2
  rintro e w2 ⟨rfl, hb2⟩
  have hb2 := below_chain hb1 hb2
  go_wp2_with fail
  refine (hr3 _ (HT.out.below hb2)).mono ?_
  clear hr3
  rintro e w3 ⟨rfl, hb3⟩
  have hb3 := below_chain hb2 hb3
  go_wp2_with fail
  refine (lives_any _ (HT.out.below hb3)).mono ?_
  rintro e w4 ⟨rfl, hb4⟩
  go_wp2_with fail
  go_ret
  exact ⟨rfl, below_chain hb3 hb4⟩

theorem walk (a b : ByteArray) (hsa : a.size ≤ 140737488355328) (hsb : b.size ≤ 140737488355328) (w : World) (hT : Tabs w) :
    Calls Tryd.prog 6 #[.string a, .string b] w fun e w' => e = .returned (.bool true) ∧ Below w.heap.size w w' := by
  rcases ha : runesL (L a) with _ | x
  · rcases hb : runesL (L b) with _ | y
    · exact walk_none a b hsa hsb ha hb w hT
    · exact walk_right a b y hsa hsb ha hb w hT
  · rcases hb : runesL (L b) with _ | y
    · exact walk_left a b x hsa hsb ha hb w hT
    · exact walk_both a b x y hsa hsb ha hb w hT

theorem reads (os : Os) {H : Type} (enc : TypeId × Value → H) : ∃ places, DataW.whole enc Tryd.prog ((laidWorld os).forCall (fun _ _ => 0) ⟨#[], (#[.string ⟨#[]⟩, .string ⟨#[]⟩] : Array Value), []⟩).memory Tryd.f6.params.toList Rows.namePiecesSpec.vars false (#[.string ⟨#[]⟩, .string ⟨#[]⟩] : Array Value).toList 8 = some ([.lit (.string []), .lit (.string [])], [], places) :=
  ⟨[], by kernel_rfl⟩

set_option maxRecDepth 100000 in
theorem lifted (os : Os) (started : os.Started) (H : Type) (enc : TypeId × Value → H) (F : Stop.Interp) :
    ReturnsInHanded {} Tryd.checked os 6 .any ((OpenSpec.ofChange Rows.namePiecesSpec).preRow enc Tryd.prog Tryd.f6 Rows.namePiecesRow.domain false Rows.namePiecesRow.laid) (((OpenSpec.ofChange Rows.namePiecesSpec).at F).post enc Tryd.prog Tryd.f6 false true false false) := by
  obtain ⟨places, hx⟩ := reads os enc
  refine returnsInHanded_of_row (C := Tryd.checked) (s := OpenSpec.ofChange Rows.namePiecesSpec) own started (by kernel_rfl) Tryd.func6
    (witness_row_at (enc := enc) (C := Tryd.checked) false (laidWorld os) #[.string ⟨#[]⟩, .string ⟨#[]⟩] rfl (by kernel_rfl) (by kernel_rfl) (by kernel_rfl)
      (OpenSpec.preRow_of_cond 8 hx (by kernel_rfl) (fun k hk => by cases hk) (by kernel_rfl) (laid_met os _))) ?_
  intro W base args ds gs before hval0 hW _ hcond hreach hL _ _
  have hval : ∀ (j : Nat) t v, Tryd.f6.params[j]? = some t → args[j]? = some v → Value.okWide Tryd.prog W .any base t v := hval0
  have hW' := hW
  obtain ⟨p, q, hA0, hV, rfl, hfz, hnd⟩ := hW
  have hA : DataW.TrodAll enc Tryd.prog W 0 (fun _ => true) true Tryd.f6.params.toList args.toList ds p := hA0
  rw [Tryd.params6] at hA hval hreach
  obtain ⟨v0, vs0, d0, ds0, p0, q0, hargs, rfl, rfl, h0, r0⟩ := trodAll_cons hA
  obtain ⟨v1, vs1, d1, ds1, p1, q1, rfl, rfl, rfl, h1, r1⟩ := trodAll_cons r0
  obtain ⟨rfl, rfl, rfl⟩ := trodAll_nil r1
  obtain rfl : args = #[v0, v1] := by cases args; simp_all
  obtain ⟨rfl, rfl⟩ := trodVars_none hV
  obtain ⟨a, rfl, rfl, rfl, wa⟩ := open_string Tryd.underlying9 (hval 0 9 v0 rfl rfl) h0
  obtain ⟨b, rfl, rfl, rfl, wb⟩ := open_string Tryd.underlying9 (hval 1 9 v1 rfl rfl) h1
  have hsa : (L a).length ≤ reachBytes := sized_string hreach (j := 0) rfl rfl
  have hsb : (L b).length ≤ reachBytes := sized_string hreach (j := 1) rfl rfl
  unfold reachBytes at hsa hsb
  rw [← L_size] at hsa hsb
  clear hA0 hval0
  refine (walk a b (by omega) (by omega) W (tabs_of hL)).mono fun e W' ⟨he, bel⟩ => ?_
  subst he
  exact ⟨_, rfl, _, _, _, [], _, [], hW', trodAll_mk1 (shut_bool Tryd.underlying4 _), (trodAll_cons_mk (shut_string Tryd.underlying9 wa) (trodAll_cons_mk (shut_string Tryd.underlying9 wb) trodAll_mk0)), rfl, bel.frame _, fun h => by cases h⟩

theorem said : Rows.NamePiecesSaid :=
  OpenClaim.holds_of_cond 6 Tryd.f6 rfl rfl rfl rfl rfl rfl rfl ⟨rfl, rfl, rfl, rfl, rfl⟩ rfl rfl rfl rfl rfl (by kernel_rfl) Tryd.func6 (by kernel_rfl)
    (of_decide_eq_true (by kernel_rfl)) (by unfold Func.isWrapper; first | (rw [if_pos (by decide +kernel)]; kernel_rfl) | (rw [if_neg (by decide +kernel)]; exact ⟨rfl, rfl⟩))
    (fun os started H enc _ F => by rw [OpenClaim.pre_eq_preRow]; exact lifted os started H enc F)

/-- No parameter wants a stand-in; the program's own looks are off. -/
theorem plain (f : FuncId) (fn : Func) (hf : Tryd.pinned.checked.prog.funcNamed "wharfage/wharfagelaw02.NamePieces" = some f) (hfn : Tryd.pinned.checked.prog.funcs[f]? = some fn) :
    false = Tryd.pinned.checked.prog.looks [] ∧ ∀ (j : Nat) t, fn.params[j]? = some t → Tryd.pinned.checked.prog.wantsStandIn t = false := by
  obtain rfl : f = 6 := Option.some.inj ((show Tryd.prog.funcNamed "wharfage/wharfagelaw02.NamePieces" = some 6 by kernel_rfl).symm.trans hf) |>.symm
  obtain rfl : fn = Tryd.f6 := (Option.some.inj (Tryd.func6.symm.trans hfn)).symm
  refine ⟨by kernel_rfl, fun j t ht => ?_⟩
  rw [Tryd.params6] at ht
  have hm := Array.mem_of_getElem? ht
  simp only [List.mem_toArray, List.mem_cons, List.not_mem_nil, or_false] at hm
  rcases hm with rfl | rfl
  all_goals exact (show Tryd.prog.wantsStandIn _ = false by kernel_rfl)

theorem proved : Rows.NamePiecesCardSaid :=
  Claim7.holds_tied_plain_at .later [] _ _ _ _ said (fun _ h => by cases h) (by kernel_rfl) (fun _ h => by cases h) namePieces_row_tie rfl ⟨rfl, rfl⟩ (by kernel_rfl) rfl plain (by kernel_rfl)

end Go.Proofs.YtmmkoonnklfjkaaDoor.namePieces
