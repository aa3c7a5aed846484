/- NameBack: what is written is told, and what is told is written as the same text. Proved for every input; condition: the two tables of the library for decoding as its own text lays them. -/
import Derived.Test.YtmmkoonnklfjkaaDoorNameRow
namespace Go.Proofs.YtmmkoonnklfjkaaDoor.nameBack
open Go.RowKit Go.Shelf Go.Lib Go.ChangeShapes Go.WideShapes Go.ChangeAt
open Go.ChangeMaps (open_string shut_string)
set_option linter.unusedVariables false


theorem over_100 (l : List ByteArray) (h : 100 < l.length) (s : ByteArray) (A : Option Addr) (c : Nat) (hl : l.length ≤ 140737488355328) (w : World) (hT : Tabs w) :
    Calls Tryd.prog 5 #[.string s, .slice A l.length c] w fun e w' => e = .returned (.bool true) ∧ Below w.heap.size w w' := by
  have h1 : (100 : Int) < (l.length : Int) := by omega
  have HT := Lib.hid hT
  clear hT h
  go_enter Tryd.func5, Tryd.ntmps5
  go_wp2_with fail
  refine (lives_any _ HT.out).mono ?_
  rintro e w1 ⟨rfl, hb1⟩
  go_wp2_with fail
  go_ret
  exact ⟨rfl, hb1⟩

theorem path_cases (s : ByteArray) : (pathL (L s)).2 = 0 ∨ (pathL (L s) = ([], 5) ∨ pathL (L s) = ([], 3)) := by
  unfold pathL
  split
  · exact .inl rfl
  · split
    · exact .inr (.inl rfl)
    · split
      · exact .inr (.inr rfl)
      · exact .inl rfl
theorem mk_L (s : ByteArray) : (⟨(L s).toArray⟩ : ByteArray) = s := L_inj rfl

set_option maxRecDepth 100000 in
set_option maxHeartbeats 4000000 in
theorem walk_yes_ok (l : List ByteArray) (h : ¬ 100 < l.length) (hm : mayL (LL l) = true) (s : ByteArray) (hs : s.size ≤ 140737488355328) (hp : (pathL (L s)).2 = 0) (w : World) (A : Option Addr) (c : Nat) (hr : RdS w A l) (hT : Tabs w) :
    Calls Tryd.prog 5 #[.string s, .slice A l.length c] w fun e w' => e = .returned (.bool true) ∧ Below w.heap.size w w' := by
  have h1 : (l.length : Int) ≤ 100 := by omega
  have h2 : decide ((100 : Int) < (l.length : Int)) = false := by simp; omega
  have hw1 := fun W A (h : RdS W A l) hT => Write_any l A c W (by omega) h hT
  have hm1 := fun W A (h : RdS W A l) hT => May_any l A c W (by omega) h hT
  rw [hm] at hm1
  rw [show writeV (LL l) = .tuple #[.string ⟨(joinL (LL l)).toArray⟩, .int .i64 0] by unfold writeV writeL; rw [if_pos hm]] at hw1
  have hpx : pathL (L ⟨(joinL (LL l)).toArray⟩) = (LL l, 0) := path_write hm
  have hsx : (⟨(joinL (LL l)).toArray⟩ : ByteArray).size ≤ 281474976710656 := by
    have := join_len l hm l.length (Nat.le_refl _)
    rw [List.take_of_length_le (by rw [LL_length]; exact Nat.le_refl _)] at this
    rw [ba_size]
    omega
  have hpa := fun W hT => Path_any ⟨(joinL (LL l)).toArray⟩ hsx W hT
  have hpb := fun W hT => Path_any s (by omega) W hT
  obtain ⟨hq1, hq2⟩ := write_path hp
  have HQ1 := Lib.hid hq1
  have HQ2 := Lib.hid hq2
  clear hq1 hq2
  have HR := Lib.hid hr
  have HT := Lib.hid hT
  have HP := Lib.hid hp
  clear hr hT hm hp 
  have HPX := Lib.hid hpx
  clear hpx
  generalize hgx : (⟨(joinL (LL l)).toArray⟩ : ByteArray) = x at *
  clear hgx hsx
  go_enter Tryd.func5, Tryd.ntmps5
  go_wp2_with fail
  refine (hw1 _ _ HR.out HT.out).mono ?_
  clear hw1
  rintro e w1 ⟨rfl, hb1⟩
  go_wp2_with fail
  refine (hm1 _ _ (HR.out.below hb1) (HT.out.below hb1)).mono ?_
  clear hm1
  rintro e w2 ⟨rfl, hb⟩
  have hb2 := below_chain hb1 hb
  clear hb
  go_wp2_with fail
  refine (hpa _ (HT.out.below hb2)).mono ?_
  clear hpa
  rintro e w3 ⟨A2, c2, l2, rfl, hl2, hr2, -, -, -, hb⟩
  rw [HPX.out] at hl2
  rw [HPX.out]
  dsimp only at hl2
  have hn2 : l2.length = l.length := by rw [← LL_length, hl2, LL_length]
  have hb3 := below_chain hb2 hb
  have hte := Texts_any l l2 A A2 c c2 w3 (by omega) (by omega) (HR.out.below hb3) hr2
  rw [hl2, show (LL l == LL l) = true by simp] at hte
  clear hb hl2 hr2 hn2
  go_wp2_with fail
  refine hte.mono ?_
  clear hte
  rintro e w4 ⟨rfl, hb⟩
  have hb4 := below_chain hb3 hb
  clear hb
  go_wp2_with fail
  refine (hpb _ (HT.out.below hb4)).mono ?_
  clear hpb
  rintro e w5 ⟨A5, c5, l5, rfl, hl5, hr5, -, -, -, hb⟩
  have hb5 := below_chain hb4 hb
  clear hb
  have HL5 := Lib.hid hl5
  rw [HP.out]
  have hn5 : l5.length ≤ 4 := by
    have := HQ1.out
    rw [← hl5] at this
    simp only [mayL, Bool.and_eq_true, decide_eq_true_eq, LL_length] at this
    exact this.1
  have hw5 := Write_any l5 A5 c5 w5 (by omega) hr5 (HT.out.below hb5)
  rw [show writeV (LL l5) = .tuple #[.string s, .int .i64 0] by unfold writeV writeL; rw [hl5, if_pos HQ1.out, HQ2.out, mk_L]] at hw5
  clear hl5
  go_wp2_with fail
  refine hw5.mono ?_
  clear hw5
  rintro e w6 ⟨rfl, hb⟩
  have hr6 := hr5.below hb
  have hb6 := below_chain hb5 hb
  have hm6 := May_any l5 A5 c5 w6 (by omega) hr6 (HT.out.below hb6)
  rw [HL5.out, HQ1.out] at hm6
  clear hb hr5 hr6
  go_wp2_with fail
  refine hm6.mono ?_
  clear hm6
  rintro e w7 ⟨rfl, hb⟩
  have hb7 := below_chain hb6 hb
  clear hb
  go_wp2_with fail
  refine (lives_any _ (HT.out.below hb7)).mono ?_
  rintro e w8 ⟨rfl, hb8⟩
  go_wp2_with fail
  go_ret
  exact ⟨rfl, below_chain hb7 hb8⟩

set_option maxRecDepth 100000 in
set_option maxHeartbeats 4000000 in
theorem walk_yes_no (l : List ByteArray) (h : ¬ 100 < l.length) (hm : mayL (LL l) = true) (s : ByteArray) (hs : s.size ≤ 140737488355328) (er : Int) (he : er = 5 ∨ er = 3) (hp : pathL (L s) = ([], er)) (w : World) (A : Option Addr) (c : Nat) (hr : RdS w A l) (hT : Tabs w) :
    Calls Tryd.prog 5 #[.string s, .slice A l.length c] w fun e w' => e = .returned (.bool true) ∧ Below w.heap.size w w' := by
  have h1 : (l.length : Int) ≤ 100 := by omega
  have h2 : decide ((100 : Int) < (l.length : Int)) = false := by simp; omega
  have hw1 := fun W A (h : RdS W A l) hT => Write_any l A c W (by omega) h hT
  have hm1 := fun W A (h : RdS W A l) hT => May_any l A c W (by omega) h hT
  rw [hm] at hm1
  rw [show writeV (LL l) = .tuple #[.string ⟨(joinL (LL l)).toArray⟩, .int .i64 0] by unfold writeV writeL; rw [if_pos hm]] at hw1
  have hpx : pathL (L ⟨(joinL (LL l)).toArray⟩) = (LL l, 0) := path_write hm
  have hsx : (⟨(joinL (LL l)).toArray⟩ : ByteArray).size ≤ 281474976710656 := by
    have := join_len l hm l.length (Nat.le_refl _)
    rw [List.take_of_length_le (by rw [LL_length]; exact Nat.le_refl _)] at this
    rw [ba_size]
    omega
  have hpa := fun W hT => Path_any ⟨(joinL (LL l)).toArray⟩ hsx W hT
  have hpb := fun W hT => Path_any s (by omega) W hT
  have he0 : (er == 0) = false := by rcases he with rfl | rfl <;> rfl
  have he1 : (er != 0) = true := by rcases he with rfl | rfl <;> rfl
  have HR := Lib.hid hr
  have HT := Lib.hid hT
  have HP := Lib.hid hp
  clear hr hT hm hp he
  have HPX := Lib.hid hpx
  clear hpx
  generalize hgx : (⟨(joinL (LL l)).toArray⟩ : ByteArray) = x at *
  clear hgx hsx
  go_enter Tryd.func5, Tryd.ntmps5
  go_wp2_with fail
  refine (hw1 _ _ HR.out HT.out).mono ?_
  clear hw1
  rintro e w1 ⟨rfl, hb1⟩
  go_wp2_with fail
  refine (hm1 _ _ (HR.out.below hb1) (HT.out.below hb1)).mono ?_
  clear hm1
  rintro e w2 ⟨rfl, hb⟩
  have hb2 := below_chain hb1 hb
  clear hb
  go_wp2_with fail
  refine (hpa _ (HT.out.below hb2)).mono ?_
  clear hpa
  rintro e w3 ⟨A2, c2, l2, rfl, hl2, hr2, -, -, -, hb⟩
  rw [HPX.out] at hl2
  rw [HPX.out]
  dsimp only at hl2
  have hn2 : l2.length = l.length := by rw [← LL_length, hl2, LL_length]
  have hb3 := below_chain hb2 hb
  have hte := Texts_any l l2 A A2 c c2 w3 (by omega) (by omega) (HR.out.below hb3) hr2
  rw [hl2, show (LL l == LL l) = true by simp] at hte
  clear hb hl2 hr2 hn2
  go_wp2_with fail
  refine hte.mono ?_
  clear hte
  rintro e w4 ⟨rfl, hb⟩
  have hb4 := below_chain hb3 hb
  clear hb
  go_wp2_with fail
  refine (hpb _ (HT.out.below hb4)).mono ?_
  clear hpb
  rintro e w5 ⟨A5, c5, l5, rfl, hl5, hr5, -, -, -, hb⟩
  have hb5 := below_chain hb4 hb
  clear hb
  rw [HP.out] at hl5 ⊢
  dsimp only at hl5 ⊢
  have hn5 : l5 = [] := by
    have := congrArg List.length hl5
    rw [LL_length] at this
    exact List.eq_nil_of_length_eq_zero this
  subst hn5
  clear hl5 hr5
  go_wp2_with fail
  refine (lives_any _ (HT.out.below hb5)).mono ?_
  rintro e w8 ⟨rfl, hb8⟩
  go_wp2_with fail
  go_ret
  exact ⟨rfl, below_chain hb5 hb8⟩

set_option maxRecDepth 100000 in
set_option maxHeartbeats 4000000 in
theorem walk_no_ok (l : List ByteArray) (h : ¬ 100 < l.length) (hm : mayL (LL l) = false) (s : ByteArray) (hs : s.size ≤ 140737488355328) (hp : (pathL (L s)).2 = 0) (w : World) (A : Option Addr) (c : Nat) (hr : RdS w A l) (hT : Tabs w) :
    Calls Tryd.prog 5 #[.string s, .slice A l.length c] w fun e w' => e = .returned (.bool true) ∧ Below w.heap.size w w' := by
  have h1 : (l.length : Int) ≤ 100 := by omega
  have h2 : decide ((100 : Int) < (l.length : Int)) = false := by simp; omega
  have hw1 := fun W A (h : RdS W A l) hT => Write_any l A c W (by omega) h hT
  have hm1 := fun W A (h : RdS W A l) hT => May_any l A c W (by omega) h hT
  rw [hm] at hm1
  rw [show writeV (LL l) = .tuple #[.string ⟨#[]⟩, .int .i64 2] by unfold writeV writeL; rw [if_neg (by rw [hm]; decide)]] at hw1
  have hpb := fun W hT => Path_any s (by omega) W hT
  obtain ⟨hq1, hq2⟩ := write_path hp
  have HQ1 := Lib.hid hq1
  have HQ2 := Lib.hid hq2
  clear hq1 hq2
  have HR := Lib.hid hr
  have HT := Lib.hid hT
  have HP := Lib.hid hp
  clear hr hT hm hp 
  go_enter Tryd.func5, Tryd.ntmps5
  go_wp2_with fail
  refine (hw1 _ _ HR.out HT.out).mono ?_
  clear hw1
  rintro e w1 ⟨rfl, hb1⟩
  go_wp2_with fail
  refine (hm1 _ _ (HR.out.below hb1) (HT.out.below hb1)).mono ?_
  clear hm1
  rintro e w2 ⟨rfl, hb⟩
  have hb2 := below_chain hb1 hb
  clear hb
  have hb4 := hb2
  go_wp2_with fail
  refine (hpb _ (HT.out.below hb4)).mono ?_
  clear hpb
  rintro e w5 ⟨A5, c5, l5, rfl, hl5, hr5, -, -, -, hb⟩
  have hb5 := below_chain hb4 hb
  clear hb
  have HL5 := Lib.hid hl5
  rw [HP.out]
  have hn5 : l5.length ≤ 4 := by
    have := HQ1.out
    rw [← hl5] at this
    simp only [mayL, Bool.and_eq_true, decide_eq_true_eq, LL_length] at this
    exact this.1
  have hw5 := Write_any l5 A5 c5 w5 (by omega) hr5 (HT.out.below hb5)
  rw [show writeV (LL l5) = .tuple #[.string s, .int .i64 0] by unfold writeV writeL; rw [hl5, if_pos HQ1.out, HQ2.out, mk_L]] at hw5
  clear hl5
  go_wp2_with fail
  refine hw5.mono ?_
  clear hw5
  rintro e w6 ⟨rfl, hb⟩
  have hr6 := hr5.below hb
  have hb6 := below_chain hb5 hb
  have hm6 := May_any l5 A5 c5 w6 (by omega) hr6 (HT.out.below hb6)
  rw [HL5.out, HQ1.out] at hm6
  clear hb hr5 hr6
  go_wp2_with fail
  refine hm6.mono ?_
  clear hm6
  rintro e w7 ⟨rfl, hb⟩
  have hb7 := below_chain hb6 hb
  clear hb
  go_wp2_with fail
  refine (lives_any _ (HT.out.below hb7)).mono ?_
  rintro e w8 ⟨rfl, hb8⟩
  go_wp2_with fail
  go_ret
  exact ⟨rfl, below_chain hb7 hb8⟩

set_option maxRecDepth 100000 in
set_option maxHeartbeats 4000000 in
theorem walk_no_no (l : List ByteArray) (h : ¬ 100 < l.length) (hm : mayL (LL l) = false) (s : ByteArray) (hs : s.size ≤ 140737488355328) (er : Int) (he : er = 5 ∨ er = 3) (hp : pathL (L s) = ([], er)) (w : World) (A : Option Addr) (c : Nat) (hr : RdS w A l) (hT : Tabs w) :
    Calls Tryd.prog 5 #[.string s, .slice A l.length c] w fun e w' => e = .returned (.bool true) ∧ Below w.heap.size w w' := by
  have h1 : (l.length : Int) ≤ 100 := by omega
  have h2 : decide ((100 : Int) < (l.length : Int)) = false := by simp; omega
  have hw1 := fun W A (h : RdS W A l) hT => Write_any l A c W (by omega) h hT
  have hm1 := fun W A (h : RdS W A l) hT => May_any l A c W (by omega) h hT
  rw [hm] at hm1
  rw [show writeV (LL l) = .tuple #[.string ⟨#[]⟩, .int .i64 2] by unfold writeV writeL; rw [if_neg (by rw [hm]; decide)]] at hw1
  have hpb := fun W hT => Path_any s (by omega) W hT
  have he0 : (er == 0) = false := by rcases he with rfl | rfl <;> rfl
  have he1 : (er != 0) = true := by rcases he with rfl | rfl <;> rfl
  have HR := Lib.hid hr
  have HT := Lib.hid hT
  have HP := Lib.hid hp
  clear hr hT hm hp he
  go_enter Tryd.func5, Tryd.ntmps5
  go_wp2_with fail
  refine (hw1 _ _ HR.out HT.out).mono ?_
  clear hw1
  rintro e w1 ⟨rfl, hb1⟩
  go_wp2_with fail
  refine (hm1 _ _ (HR.out.below hb1) (HT.out.below hb1)).mono ?_
  clear hm1
  rintro e w2 ⟨rfl, hb⟩
  have hb2 := below_chain hb1 hb
  clear hb
  have hb4 := hb2
  go_wp2_with fail
  refine (hpb _ (HT.out.below hb4)).mono ?_
  clear hpb
  rintro e w5 ⟨A5, c5, l5, rfl, hl5, hr5, -, -, -, hb⟩
  have hb5 := below_chain hb4 hb
  clear hb
  rw [HP.out] at hl5 ⊢
  dsimp only at hl5 ⊢
  have hn5 : l5 = [] := by
    have := congrArg List.length hl5
    rw [LL_length] at this
    exact List.eq_nil_of_length_eq_zero this
  subst hn5
  clear hl5 hr5
  go_wp2_with fail
  refine (lives_any _ (HT.out.below hb5)).mono ?_
  rintro e w8 ⟨rfl, hb8⟩
  go_wp2_with fail
  go_ret
  exact ⟨rfl, below_chain hb5 hb8⟩

theorem walk (s : ByteArray) (hs : s.size ≤ 140737488355328) (l : List ByteArray) (hl : l.length ≤ 140737488355328) (A : Option Addr) (c : Nat) (w : World) (hr : RdS w A l) (hT : Tabs w) :
    Calls Tryd.prog 5 #[.string s, .slice A l.length c] w fun e w' => e = .returned (.bool true) ∧ Below w.heap.size w w' := by
  by_cases h : 100 < l.length
  · exact over_100 l h s A c hl w hT
  cases hm : mayL (LL l)
  · rcases path_cases s with hp | hp | hp
    · exact walk_no_ok l h hm s hs hp w A c hr hT
    · exact walk_no_no l h hm s hs 5 (.inl rfl) hp w A c hr hT
    · exact walk_no_no l h hm s hs 3 (.inr rfl) hp w A c hr hT
  · rcases path_cases s with hp | hp | hp
    · exact walk_yes_ok l h hm s hs hp w A c hr hT
    · exact walk_yes_no l h hm s hs 5 (.inl rfl) hp w A c hr hT
    · exact walk_yes_no l h hm s hs 3 (.inr rfl) hp w A c hr hT

theorem reads (os : Os) {H : Type} (enc : TypeId × Value → H) : ∃ places, DataW.whole enc Tryd.prog ((laidWorld os).forCall (fun _ _ => 0) ⟨#[], (#[.string ⟨#[]⟩, .slice none 0 0] : Array Value), []⟩).memory Tryd.f5.params.toList Rows.nameBackSpec.vars false (#[.string ⟨#[]⟩, .slice none 0 0] : Array Value).toList 8 = some ([.lit (.string []), .nil], [], places) :=
  ⟨[], by kernel_rfl⟩

set_option maxRecDepth 100000 in
theorem lifted (os : Os) (started : os.Started) (H : Type) (enc : TypeId × Value → H) (F : Stop.Interp) :
    ReturnsInHanded {} Tryd.checked os 5 .any ((OpenSpec.ofChange Rows.nameBackSpec).preRow enc Tryd.prog Tryd.f5 Rows.nameBackRow.domain false Rows.nameBackRow.laid) (((OpenSpec.ofChange Rows.nameBackSpec).at F).post enc Tryd.prog Tryd.f5 false true false false) := by
  obtain ⟨places, hx⟩ := reads os enc
  refine returnsInHanded_of_row (C := Tryd.checked) (s := OpenSpec.ofChange Rows.nameBackSpec) own started (by kernel_rfl) Tryd.func5
    (witness_row_at (enc := enc) (C := Tryd.checked) false (laidWorld os) #[.string ⟨#[]⟩, .slice none 0 0] rfl (by kernel_rfl) (by kernel_rfl) (by kernel_rfl)
      (OpenSpec.preRow_of_cond 8 hx (by kernel_rfl) (fun k hk => by cases hk) (by kernel_rfl) (laid_met os _))) ?_
  intro W base args ds gs before hval0 hW _ hcond hreach hL _ _
  have hval : ∀ (j : Nat) t v, Tryd.f5.params[j]? = some t → args[j]? = some v → Value.okWide Tryd.prog W .any base t v := hval0
  have hW' := hW
  obtain ⟨p, q, hA0, hV, rfl, hfz, hnd⟩ := hW
  have hA : DataW.TrodAll enc Tryd.prog W 0 (fun _ => true) true Tryd.f5.params.toList args.toList ds p := hA0
  rw [Tryd.params5] at hA hval hreach
  obtain ⟨v0, vs0, d0, ds0, p0, q0, hargs, rfl, rfl, h0, r0⟩ := trodAll_cons hA
  obtain ⟨v1, vs1, d1, ds1, p1, q1, rfl, rfl, rfl, h1, r1⟩ := trodAll_cons r0
  obtain ⟨rfl, rfl, rfl⟩ := trodAll_nil r1
  obtain rfl : args = #[v0, v1] := by cases args; simp_all
  obtain ⟨rfl, rfl⟩ := trodVars_none hV
  obtain ⟨s, rfl, rfl, rfl, ws⟩ := open_string Tryd.underlying9 (hval 0 9 v0 rfl rfl) h0
  obtain ⟨A, c, l, rfl, hrd, hnil, hlc, hcm, hd⟩ := open_texts (hval 1 26 v1 rfl rfl) h1
  have hsz : (L s).length ≤ reachBytes := sized_string hreach (j := 0) rfl rfl
  unfold reachBytes at hsz
  rw [← L_size] at hsz
  have hln : l.length ≤ 140737488355328 := by
    rcases hd with ⟨-, rfl⟩ | ⟨spare, rfl⟩
    · simp
    · have hz := sized_slice hreach (j := 1) rfl rfl Tryd.underlying26
      rw [List.length_map, show Tryd.checked.prog.bytesOf 9 = 16 by kernel_rfl] at hz
      unfold reachBytes at hz
      omega
  have lt1 : ∀ x ∈ p1, x.block < W.heap.size := by obtain ⟨m, hm⟩ := h1; exact DataW.trod_lt m _ _ _ hm
  clear hA0 hval0
  refine (walk s (by omega) l hln A c W hrd (tabs_of hL)).mono fun e W' ⟨he, bel⟩ => ?_
  subst he
  exact ⟨_, rfl, _, _, _, [], _, [], hW', trodAll_mk1 (shut_bool Tryd.underlying4 _), (trodAll_cons_mk (shut_string Tryd.underlying9 ws) (trodAll_cons_mk (Below.trod laidOut (by kernel_rfl) (of_decide_eq_true (by kernel_rfl)) h1 bel lt1) trodAll_mk0)), rfl, bel.frame _, fun h => by cases h⟩

theorem said : Rows.NameBackSaid :=
  OpenClaim.holds_of_cond 5 Tryd.f5 rfl rfl rfl rfl rfl rfl rfl ⟨rfl, rfl, rfl, rfl, rfl⟩ rfl rfl rfl rfl rfl (by kernel_rfl) Tryd.func5 (by kernel_rfl)
    (of_decide_eq_true (by kernel_rfl)) (by unfold Func.isWrapper; first | (rw [if_pos (by decide +kernel)]; kernel_rfl) | (rw [if_neg (by decide +kernel)]; exact ⟨rfl, rfl⟩))
    (fun os started H enc _ F => by rw [OpenClaim.pre_eq_preRow]; exact lifted os started H enc F)

/-- No parameter wants a stand-in; the program's own looks are off. -/
theorem plain (f : FuncId) (fn : Func) (hf : Tryd.pinned.checked.prog.funcNamed "wharfage/wharfagelaw02.NameBack" = some f) (hfn : Tryd.pinned.checked.prog.funcs[f]? = some fn) :
    false = Tryd.pinned.checked.prog.looks [] ∧ ∀ (j : Nat) t, fn.params[j]? = some t → Tryd.pinned.checked.prog.wantsStandIn t = false := by
  obtain rfl : f = 5 := Option.some.inj ((show Tryd.prog.funcNamed "wharfage/wharfagelaw02.NameBack" = some 5 by kernel_rfl).symm.trans hf) |>.symm
  obtain rfl : fn = Tryd.f5 := (Option.some.inj (Tryd.func5.symm.trans hfn)).symm
  refine ⟨by kernel_rfl, fun j t ht => ?_⟩
  rw [Tryd.params5] at ht
  have hm := Array.mem_of_getElem? ht
  simp only [List.mem_toArray, List.mem_cons, List.not_mem_nil, or_false] at hm
  rcases hm with rfl | rfl
  all_goals exact (show Tryd.prog.wantsStandIn _ = false by kernel_rfl)

theorem proved : Rows.NameBackCardSaid :=
  Claim7.holds_tied_plain_at .later [] _ _ _ _ said (fun _ h => by cases h) (by kernel_rfl) (fun _ h => by cases h) nameBack_row_tie rfl ⟨rfl, rfl⟩ (by kernel_rfl) rfl plain (by kernel_rfl)

end Go.Proofs.YtmmkoonnklfjkaaDoor.nameBack
