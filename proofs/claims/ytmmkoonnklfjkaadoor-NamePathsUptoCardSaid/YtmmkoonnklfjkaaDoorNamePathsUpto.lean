/- NamePaths: the names of any text, the text of any names, and whether they are a path, is the document answer, or its error; what is handed in stays. Proved in its second form: where the arguments hold at most 1048576 values and letters; condition: the two tables of the library for decoding as its own text lays them. -/
import Derived.Test.YtmmkoonnklfjkaaDoorNameRow
namespace Go.Proofs.YtmmkoonnklfjkaaDoor.namePathsUpto
open Go.RowKit Go.Shelf Go.Lib Go.ChangeShapes Go.WideShapes Go.ChangeAt
open Go.ChangeMaps (open_string shut_string)
set_option linter.unusedVariables false


theorem over_100 (l : List ByteArray) (h : 100 < l.length) (s : ByteArray) (A : Option Addr) (c : Nat) (hl : l.length ≤ 140737488355328) (w : World) (hT : Tabs w) :
    Calls Tryd.prog 4 #[.string s, .slice A l.length c] w fun e w' => e = .returned (.bool true) ∧ Below w.heap.size w w' := by
  have h1 : (100 : Int) < (l.length : Int) := by omega
  have HT := Lib.hid hT
  clear hT h
  go_enter Tryd.func4, Tryd.ntmps4
  go_wp2_with fail
  refine (lives_any _ HT.out).mono ?_
  rintro e w1 ⟨rfl, hb1⟩
  go_wp2_with fail
  go_ret
  exact ⟨rfl, hb1⟩

theorem rds_cells {W : World} {a : Addr} {l : List ByteArray} (h : RdS W (some a) l) : ∀ j u, (strsOf l)[j]? = some u → W.cell? (a.add j) = some u := by
  intro j u hu
  rcases h with rfl | ⟨b, off, e, hc⟩
  · simp [strsOf] at hu
  · cases e
    have hj : j < l.length := by
      rcases Nat.lt_or_ge j l.length with h1 | h1
      · exact h1
      · rw [List.getElem?_eq_none (by rw [strsOf_length]; exact h1)] at hu; cases hu
    have e1 : (⟨b, off, none⟩ : Addr).add j = ⟨b, off + j, none⟩ := by
      unfold Addr.add
      split <;> simp_all
    rw [e1, hc j hj]
    simp only [strsOf, List.getElem?_map, List.getElem?_eq_getElem hj, Option.map_some, Option.some.injEq] at hu
    rw [hu]
theorem strsOf_one (l : List ByteArray) : ∀ u ∈ strsOf l, u.oneCell' = true := by
  intro u hu
  simp only [strsOf, List.mem_map] at hu
  obtain ⟨c, _, rfl⟩ := hu
  rfl
/-- append of texts, nil or not, to no list -/
theorem append_rds {w : World} {ops : Array Oper} {rest : List Oper} {o : Oper} {a : Act} {Q : Exit → Act → World → Prop} (hgd : o.guard = none) (s x : Operand)
    (ho : o.op = .call { callee := .builtin .append, args := #[s, x], argTypes := #[26, 26] }) (hs : a.eval s = .slice none 0 0)
    (A : Option Addr) (l : List ByteArray) (m c : Nat) (hm : m = l.length) (hx : a.eval x = .slice A m c) (hr : RdS w A l) (hA : A = none → l = [] ∧ c = 0) (hb : m ≤ 1048576)
    (h : ∀ v' w', w'.ownsRow w.heap.size 9 1 v' l.length (strsOf l) → Below w.heap.size w w' → wpList Tryd.prog ops Q rest (a.put o.dst v') w') : wpList Tryd.prog ops Q (o :: rest) a w := by
  obtain ⟨i0, hi, hz0, hz1, hz2⟩ := info_parts infoStr
  subst hm
  rcases A with _ | ad
  · obtain ⟨rfl, rfl⟩ := hA rfl
    refine wpList_append_own_none hgd s x 26 ho w.heap.size 9 i0 1 Tryd.underlying26 hi (.slice none 0 0) 0 [] hs (World.ownsRow_nil _ _ _ _) hx ?_
    exact h _ w (World.ownsRow_nil _ _ _ _) (Below.refl _ _)
  · refine wpList_append_own w hgd s x 26 ho w.heap.size 9 i0 (.string ⟨#[]⟩) 1 16 Tryd.underlying26 hi hz0 hz1 hz2 rfl (by decide) (.slice none 0 0) 0 [] hs (World.ownsRow_nil _ _ _ _) ad l.length c (strsOf l) hx (by rw [strsOf_length, Nat.mul_one]) (rds_cells hr) (strsOf_one l) (by simp only [maxLen]; omega) (by omega) (Nat.le_refl _) ?_
    intro v' w' h1 h2 _
    rw [Nat.zero_add, List.nil_append] at h1
    exact h v' w' h1 ((Below.refl _ _).grown h2 (Nat.le_refl _) (fun k e => by cases e))

set_option maxRecDepth 100000 in
set_option maxHeartbeats 4000000 in
theorem walk_few (l : List ByteArray) (h : ¬ 100 < l.length) (s : ByteArray) (hs : s.size ≤ 1048576) (A : Option Addr) (c : Nat) (hA : A = none → l = [] ∧ c = 0) (w : World) (hr : RdS w A l) (hT : Tabs w) :
    Calls Tryd.prog 4 #[.string s, .slice A l.length c] w fun e w' => e = .returned (.bool true) ∧ Below w.heap.size w w' := by
  have h1 : (l.length : Int) ≤ 100 := by omega
  have h2 : decide ((100 : Int) < (l.length : Int)) = false := by simp; omega
  have hw1 := fun W A c (h : RdS W A l) hT => Write_any l A c W (by omega) h hT
  have hw2 := fun W A c (h : RdS W A l) => Write_ref l A c W (by omega) h
  have hm1 := fun W A c (h : RdS W A l) hT => May_any l A c W (by omega) h hT
  have hm2 := fun W A c (h : RdS W A l) => May_ref l A c W (by omega) h
  have hp1 := fun W hT => Path_any s (by omega) W hT
  have hp2 := fun W => Path_ref s hs W
  have hll : (LL l == LL l) = true := by simp
  unfold PathRet at hp1 hp2
  unfold writeV at hw1 hw2
  generalize hpl : pathL (L s) = P at *
  obtain ⟨pl, er⟩ := P
  have h4 : pl.length ≤ 4 := by
    unfold pathL at hpl
    split at hpl
    · cases hpl; simp
    · split at hpl
      · cases hpl; simp
      · split at hpl
        · cases hpl; simp
        · cases hpl; omega
  generalize writeL (LL l) = Wr at *
  obtain ⟨wt, we⟩ := Wr
  dsimp only at *
  generalize (⟨wt.toArray⟩ : ByteArray) = x at *
  have HR := Lib.hid hr
  have HT := Lib.hid hT
  have HA := Lib.hid hA
  have HLL := Lib.hid hll
  clear hr hT hpl hA hll
  go_enter Tryd.func4, Tryd.ntmps4
  go_wp2_with (at_builtin; refine append_rds rfl (.tmp 18) (.tmp 19) rfl rfl A l l.length c rfl rfl HR.out HA.out (by omega) ?_; intro v1 w1 hown1 hb1; obtain ⟨A1, c1, rfl, hr1, -, -, -⟩ := own_rds hown1 rfl; clear hown1)
  refine (hp1 _ (HT.out.below hb1)).mono ?_
  clear hp1
  rintro e w2 ⟨A2, c2, l2, rfl, hl2, hr2, -, -, -, hb⟩
  have hr1 := hr1.below hb
  have hb2 := below_chain hb1 hb
  clear hb
  go_wp2_with fail
  refine (hp2 _).mono ?_
  clear hp2
  rintro e w3 ⟨A3, c3, l3, rfl, hl3, hr3, -, -, -, hb⟩
  have hr1 := hr1.below hb
  have hr2 := hr2.below hb
  have hb3 := below_chain hb2 hb
  clear hb
  go_wp2_with fail
  refine (hw1 _ _ _ hr1 (HT.out.below hb3)).mono ?_
  clear hw1
  rintro e w4 ⟨rfl, hb⟩
  have hr1 := hr1.below hb
  have hr2 := hr2.below hb
  have hr3 := hr3.below hb
  have hb4 := below_chain hb3 hb
  clear hb
  go_wp2_with fail
  refine (hw2 _ _ _ (HR.out.below hb4)).mono ?_
  clear hw2
  rintro e _ ⟨rfl, rfl⟩
  have n2 : l2.length = pl.length := by rw [← hl2, LL_length]
  have n3 : l3.length = pl.length := by rw [← hl3, LL_length]
  have ht := Texts_any l2 l3 A2 A3 c2 c3 w4 (by omega) (by omega) hr2 hr3
  rw [hl2, hl3, show (pl == pl) = true by simp] at ht
  clear hl2 hl3 n2 n3 hr2 hr3
  go_wp2_with fail
  refine ht.mono ?_
  clear ht
  rintro e w5 ⟨rfl, hb⟩
  have hr1 := hr1.below hb
  have hb5 := below_chain hb4 hb
  clear hb
  go_wp2_with fail
  refine (hm1 _ _ _ hr1 (HT.out.below hb5)).mono ?_
  clear hm1
  rintro e w6 ⟨rfl, hb⟩
  have hr1 := hr1.below hb
  have hb6 := below_chain hb5 hb
  clear hb
  go_wp2_with fail
  refine (hm2 _ _ _ (HR.out.below hb6)).mono ?_
  clear hm2
  rintro e _ ⟨rfl, rfl⟩
  generalize mayL (LL l) = mm at *
  have ht := Texts_any l l A1 A c1 c w6 (by omega) (by omega) hr1 (HR.out.below hb6)
  rw [HLL.out] at ht
  clear hr1
  cases mm
  all_goals
    go_wp2_with fail
    refine ht.mono ?_
    clear ht
    rintro e w7 ⟨rfl, hb⟩
    have hb7 := below_chain hb6 hb
    clear hb
    go_wp2_with fail
    refine (lives_any _ (HT.out.below hb7)).mono ?_
    rintro e w8 ⟨rfl, hb8⟩
    go_wp2_with fail
    go_ret
    exact ⟨rfl, below_chain hb7 hb8⟩

theorem walk (s : ByteArray) (hs : s.size ≤ 1048576) (l : List ByteArray) (hl : l.length ≤ 140737488355328) (A : Option Addr) (c : Nat) (hA : A = none → l = [] ∧ c = 0) (w : World) (hr : RdS w A l) (hT : Tabs w) :
    Calls Tryd.prog 4 #[.string s, .slice A l.length c] w fun e w' => e = .returned (.bool true) ∧ Below w.heap.size w w' := by
  by_cases h : 100 < l.length
  · exact over_100 l h s A c hl w hT
  · exact walk_few l h s hs A c hA w hr hT

theorem reads (os : Os) {H : Type} (enc : TypeId × Value → H) : ∃ places, DataW.whole enc Tryd.prog ((laidWorld os).forCall (fun _ _ => 0) ⟨#[], (#[.string ⟨#[]⟩, .slice none 0 0] : Array Value), []⟩).memory Tryd.f4.params.toList Rows.namePathsSpec.vars false (#[.string ⟨#[]⟩, .slice none 0 0] : Array Value).toList 8 = some ([.lit (.string []), .nil], [], places) :=
  ⟨[], by kernel_rfl⟩

set_option maxRecDepth 100000 in
theorem lifted (os : Os) (started : os.Started) (H : Type) (enc : TypeId × Value → H) (F : Stop.Interp) :
    ReturnsInHanded {} Tryd.checked os 4 .any ((Rows.OpenSpec.upto Rows.namePathsSpec).preRow enc Tryd.prog Tryd.f4 Rows.namePathsUptoRow.domain false Rows.namePathsUptoRow.laid) (((Rows.OpenSpec.upto Rows.namePathsSpec).at F).post enc Tryd.prog Tryd.f4 false true false false) := by
  obtain ⟨places, hx⟩ := reads os enc
  refine returnsInHanded_of_row (C := Tryd.checked) (s := Rows.OpenSpec.upto Rows.namePathsSpec) own started (by kernel_rfl) Tryd.func4
    (witness_row_at (enc := enc) (C := Tryd.checked) false (laidWorld os) #[.string ⟨#[]⟩, .slice none 0 0] rfl (by kernel_rfl) (by kernel_rfl) (by kernel_rfl)
      (OpenSpec.preRow_of_cond 8 hx (by kernel_rfl) (fun k hk => by cases hk; kernel_rfl) (by kernel_rfl) (laid_met os _))) ?_
  intro W base args ds gs before hval0 hW _ hcond hreach hL _ _
  have hval : ∀ (j : Nat) t v, Tryd.f4.params[j]? = some t → args[j]? = some v → Value.okWide Tryd.prog W .any base t v := hval0
  have hW' := hW
  obtain ⟨p, q, hA0, hV, rfl, hfz, hnd⟩ := hW
  have hA : DataW.TrodAll enc Tryd.prog W 0 (fun _ => true) true Tryd.f4.params.toList args.toList ds p := hA0
  rw [Tryd.params4] at hA hval hreach
  obtain ⟨v0, vs0, d0, ds0, p0, q0, hargs, rfl, rfl, h0, r0⟩ := trodAll_cons hA
  obtain ⟨v1, vs1, d1, ds1, p1, q1, rfl, rfl, rfl, h1, r1⟩ := trodAll_cons r0
  obtain ⟨rfl, rfl, rfl⟩ := trodAll_nil r1
  obtain rfl : args = #[v0, v1] := by cases args; simp_all
  obtain ⟨rfl, rfl⟩ := trodVars_none hV
  obtain ⟨s, rfl, rfl, rfl, ws⟩ := open_string Tryd.underlying9 (hval 0 9 v0 rfl rfl) h0
  obtain ⟨A, c, l, rfl, hrd, hnil, hlc, hcm, hd⟩ := open_texts (hval 1 26 v1 rfl rfl) h1
  have hsz : s.size ≤ 1048576 := by
    have hk := of_decide_eq_true (hcond _ rfl)
    simp only [Rows.uptoBulkAll, Rows.uptoBulk, List.append_nil] at hk
    rw [L_size]
    simp only [L]
    omega
  have hln : l.length ≤ 140737488355328 := by
    rcases hd with ⟨-, rfl⟩ | ⟨spare, rfl⟩
    · simp
    · have hz := sized_slice hreach (j := 1) rfl rfl Tryd.underlying26
      rw [List.length_map, show Tryd.checked.prog.bytesOf 9 = 16 by kernel_rfl] at hz
      unfold reachBytes at hz
      omega
  have lt1 : ∀ x ∈ p1, x.block < W.heap.size := by obtain ⟨m, hm⟩ := h1; exact DataW.trod_lt m _ _ _ hm
  clear hA0 hval0
  refine (walk s hsz l hln A c hnil W hrd (tabs_of hL)).mono fun e W' ⟨he, bel⟩ => ?_
  subst he
  exact ⟨_, rfl, _, _, _, [], _, [], hW', trodAll_mk1 (shut_bool Tryd.underlying4 _), (trodAll_cons_mk (shut_string Tryd.underlying9 ws) (trodAll_cons_mk (Below.trod laidOut (by kernel_rfl) (of_decide_eq_true (by kernel_rfl)) h1 bel lt1) trodAll_mk0)), rfl, bel.frame _, fun h => by cases h⟩

theorem said : Rows.NamePathsUptoSaid :=
  OpenClaim.holds_of_cond 4 Tryd.f4 rfl rfl rfl rfl rfl rfl rfl ⟨rfl, rfl, rfl, rfl, rfl⟩ rfl rfl rfl rfl rfl (by kernel_rfl) Tryd.func4 (by kernel_rfl)
    (of_decide_eq_true (by kernel_rfl)) (by unfold Func.isWrapper; first | (rw [if_pos (by decide +kernel)]; kernel_rfl) | (rw [if_neg (by decide +kernel)]; exact ⟨rfl, rfl⟩))
    (fun os started H enc _ F => by rw [OpenClaim.pre_eq_preRow]; exact lifted os started H enc F)

/-- No parameter wants a stand-in; the program's own looks are off. -/
theorem plain (f : FuncId) (fn : Func) (hf : Tryd.pinned.checked.prog.funcNamed "wharfage/wharfagelaw02.NamePaths" = some f) (hfn : Tryd.pinned.checked.prog.funcs[f]? = some fn) :
    false = Tryd.pinned.checked.prog.looks [] ∧ ∀ (j : Nat) t, fn.params[j]? = some t → Tryd.pinned.checked.prog.wantsStandIn t = false := by
  obtain rfl : f = 4 := Option.some.inj ((show Tryd.prog.funcNamed "wharfage/wharfagelaw02.NamePaths" = some 4 by kernel_rfl).symm.trans hf) |>.symm
  obtain rfl : fn = Tryd.f4 := (Option.some.inj (Tryd.func4.symm.trans hfn)).symm
  refine ⟨by kernel_rfl, fun j t ht => ?_⟩
  rw [Tryd.params4] at ht
  have hm := Array.mem_of_getElem? ht
  simp only [List.mem_toArray, List.mem_cons, List.not_mem_nil, or_false] at hm
  rcases hm with rfl | rfl
  all_goals exact (show Tryd.prog.wantsStandIn _ = false by kernel_rfl)

theorem proved : Rows.NamePathsUptoCardSaid :=
  Claim7.holds_tied_plain_at .later [] _ _ _ _ said (fun _ h => by cases h) (by kernel_rfl) (fun _ h => by cases h) namePathsUpto_row_tie rfl ⟨rfl, rfl⟩ (by kernel_rfl) rfl plain (by kernel_rfl)

end Go.Proofs.YtmmkoonnklfjkaaDoor.namePathsUpto
