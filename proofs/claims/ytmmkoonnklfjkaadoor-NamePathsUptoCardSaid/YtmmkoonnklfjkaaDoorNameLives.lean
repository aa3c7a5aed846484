/- Path at every text; lives: the names that the document tells. -/
import Derived.Test.YtmmkoonnklfjkaaDoorNamePath
namespace Go.Proofs.YtmmkoonnklfjkaaDoor
open Go.RowKit Go.Shelf Go.Lib Go.ChangeShapes Go.WideShapes Go.ChangeAt
set_option linter.unusedVariables false

set_option maxHeartbeats 1000000 in
theorem Path_empty (s : ByteArray) (h0 : s.toList = []) (w : World) :
    Calls Tryd.prog 12 #[.string s] w fun e w' => PathRet s w.heap.size w e w' := by
  have b0 : s.toList.isEmpty = true := by rw [h0]; rfl
  have hL := Lib.hid (show L s = [] by rw [← toList_L]; exact h0)
  clear h0
  go_enter Tryd.func12, Tryd.ntmps12
  go_wp2
  have c0 := ((Cs.new w 26 #[.slice none 0 0]).alloc (.cells #[.int .i64 0] 27))
  have c1 := Cs.new (w.alloc (.cells #[.slice none 0 0] 26)) 27 #[.int .i64 0]
  simp only [World.size_alloc] at c1
  refine bodyPost_ret (results_cells2 rfl _ _ ⟨w.heap.size, 0, none⟩ ⟨w.heap.size + 1, 0, none⟩ (.slice none 0 0) (.int .i64 0) rfl rfl (load_slice _ _ _ _ _ (c0.cell 0 rfl)) (load_errno _ _ _ (c1.cell 0 rfl))) rfl ?_
  have hp : pathL (L s) = ([], 0) := by rw [hL.out]; rfl
  exact ⟨none, 0, [], by rw [hp]; rfl, by rw [hp]; rfl, .inl rfl, fun _ => ⟨rfl, rfl⟩, Nat.le_refl _, Nat.zero_le _, ((Below.refl w.heap.size w).alloc (Nat.le_refl _) _).alloc (by simp) _⟩
theorem Path_any (s : ByteArray) (hs : s.size ≤ 281474976710656) (w : World) (hT : Tabs w) :
    Calls Tryd.prog 12 #[.string s] w fun e w' => PathRet s w.heap.size w e w' := by
  by_cases h0 : s.toList = []
  · exact Path_empty s h0 w
  · exact callsIn_wide.1 (Path_in s hs h0 w hT)

theorem text_any (l : List UInt8) (A : Option Addr) (c : Nat) (w : World) (hr : Rd w A l) :
    Calls Tryd.prog 22 #[.slice A l.length c] w fun e w' => e = .returned (.string ⟨l.toArray⟩) ∧ w = w' := by
  have k := conv_rd hr c
  clear hr
  go_enter Tryd.func22, Tryd.ntmps22
  go_wp2
  go_ret
  exact ⟨rfl, rfl⟩

/-- what Path answers: these names, that error -/
def PathAns (l : List (List UInt8)) (er : Int) (w : World) (e : Ending) (W' : World) : Prop :=
  ∃ A c, ∃ ls : List ByteArray, e = .returned (.tuple #[.slice A l.length c, .int .i64 er]) ∧ LL ls = l ∧ RdS W' A ls ∧ (A = none → ls = [] ∧ c = 0) ∧ ls.length ≤ c ∧ c ≤ maxLen ∧ Below w.heap.size w W'
theorem Path_ans (s : ByteArray) (hs : s.size ≤ 281474976710656) (l : List (List UInt8)) (er : Int) (h : pathL (L s) = (l, er)) (w : World) (hT : Tabs w) :
    Calls Tryd.prog 12 #[.string s] w fun e w' => PathAns l er w e w' := by
  refine (Path_any s hs w hT).mono ?_
  rintro e w' ⟨A, c, ls, rfl, hl, hr, hn, h1, h2, hb⟩
  rw [h] at hl
  dsimp only at hl
  have hlen : ls.length = l.length := by rw [← hl, LL_length]
  exact ⟨A, c, ls, by rw [h, hlen], hl, hr, hn, h1, h2, hb⟩

theorem path_ab : pathL [97, 47, 98] = ([[97], [98]], 0) := by decide +kernel
theorem path_a_b : pathL [97, 47, 47, 98] = ([], 5) := by decide +kernel
theorem runes_e : runesL [195, 169, 97] = some 2 := by decide +kernel

theorem runes3 (W : World) (hT : Tabs W) : Calls Tryd.prog 7 #[.string ⟨#[195, 169, 97]⟩] W fun e W' => e = .returned (.tuple #[.int .i64 2, .bool true]) ∧ Below W.heap.size W W' := by
  have h := Runes_any ⟨#[195, 169, 97]⟩ (by decide) W hT
  rw [show runesV (L ⟨#[195, 169, 97]⟩) = .tuple #[.int .i64 2, .bool true] from runesV_some runes_e] at h
  exact h
theorem text3 (W : World) : Calls Tryd.prog 22 #[.slice (some ⟨W.heap.size, 0, none⟩) 3 3] (W.alloc (.cells #[.int .u8 195, .int .u8 169, .int .u8 97] 5)) fun e W' => e = .returned (.string ⟨#[195, 169, 97]⟩) ∧ Below W.heap.size W W' :=
  (text_any [195, 169, 97] (some ⟨W.heap.size, 0, none⟩) 3 _ (rd_cs (Cs.new W 5 _) rfl)).mono fun e W' ⟨he, hb⟩ => ⟨he, by rw [← hb]; exact (Below.refl _ _).alloc (Nat.le_refl _) _⟩
theorem text2 (W : World) : Calls Tryd.prog 22 #[.slice (some ⟨W.heap.size, 0, none⟩) 2 2] (W.alloc (.cells #[.int .u8 195, .int .u8 169] 5)) fun e W' => e = .returned (.string ⟨#[195, 169]⟩) ∧ Below W.heap.size W W' :=
  (text_any [195, 169] (some ⟨W.heap.size, 0, none⟩) 2 _ (rd_cs (Cs.new W 5 _) rfl)).mono fun e W' ⟨he, hb⟩ => ⟨he, by rw [← hb]; exact (Below.refl _ _).alloc (Nat.le_refl _) _⟩
theorem text1 (W : World) : Calls Tryd.prog 22 #[.slice (some ⟨W.heap.size, 0, none⟩) 1 1] (W.alloc (.cells #[.int .u8 255] 5)) fun e W' => e = .returned (.string ⟨#[255]⟩) ∧ Below W.heap.size W W' :=
  (text_any [255] (some ⟨W.heap.size, 0, none⟩) 1 _ (rd_cs (Cs.new W 5 _) rfl)).mono fun e W' ⟨he, hb⟩ => ⟨he, by rw [← hb]; exact (Below.refl _ _).alloc (Nat.le_refl _) _⟩
theorem textX (W : World) : Calls Tryd.prog 22 #[.slice (some ⟨W.heap.size, 0, none⟩) 3 3] (W.alloc (.cells #[.int .u8 239, .int .u8 191, .int .u8 189] 5)) fun e W' => e = .returned (.string ⟨#[239, 191, 189]⟩) ∧ Below W.heap.size W W' :=
  (text_any [239, 191, 189] (some ⟨W.heap.size, 0, none⟩) 3 _ (rd_cs (Cs.new W 5 _) rfl)).mono fun e W' ⟨he, hb⟩ => ⟨he, by rw [← hb]; exact (Below.refl _ _).alloc (Nat.le_refl _) _⟩
theorem is_ans (l : List UInt8) (b : Bool) (h : nameL l = b) (W : World) (hT : Tabs W) : Calls Tryd.prog 9 #[.string ⟨l.toArray⟩] W fun e W' => e = .returned (.bool b) ∧ Below W.heap.size W W' := by
  have := Is_any ⟨l.toArray⟩ W hT
  rw [show nameL (L ⟨l.toArray⟩) = b from h] at this
  exact this
theorem n1 : nameL [97] = true := by decide +kernel
theorem n2 : nameL [46, 46] = false := by decide +kernel
theorem n3 : nameL [97, 47, 98] = false := by decide +kernel
theorem n4 : nameL [195, 169] = true := by decide +kernel
theorem n5 : nameL [255] = false := by decide +kernel
theorem n6 : nameL [239, 191, 189] = true := by decide +kernel
theorem may_no : mayL [[46, 46]] = false := by decide +kernel
theorem write_ab : writeL [[97], [98]] = ([97, 47, 98], 0) := by decide +kernel

theorem write2 (W : World) (hT : Tabs W) : Calls Tryd.prog 14 #[.slice (some ⟨W.heap.size, 0, none⟩) 2 2] (W.alloc (.cells #[.string ⟨#[97]⟩, .string ⟨#[98]⟩] 9)) fun e W' => e = .returned (.tuple #[.string ⟨#[97, 47, 98]⟩, .int .i64 0]) ∧ Below W.heap.size W W' := by
  have h := Write_any [⟨#[97]⟩, ⟨#[98]⟩] (some ⟨W.heap.size, 0, none⟩) 2 (W.alloc (.cells #[.string ⟨#[97]⟩, .string ⟨#[98]⟩] 9)) (by decide) (rds_cs (Cs.new W 9 _) rfl) (hT.below ((Below.refl _ _).alloc (Nat.le_refl _) _))
  rw [show writeV (LL [⟨#[97]⟩, ⟨#[98]⟩]) = .tuple #[.string ⟨#[97, 47, 98]⟩, .int .i64 0] by unfold writeV; rw [show LL [⟨#[97]⟩, ⟨#[98]⟩] = [[97], [98]] from rfl, write_ab]] at h
  exact h.mono fun e W' ⟨he, hb⟩ => ⟨he, below_alloc _ hb⟩
theorem may1 (W : World) (hT : Tabs W) : Calls Tryd.prog 17 #[.slice (some ⟨W.heap.size, 0, none⟩) 1 1] (W.alloc (.cells #[.string ⟨#[46, 46]⟩] 9)) fun e W' => e = .returned (.bool false) ∧ Below W.heap.size W W' := by
  have h := May_any [⟨#[46, 46]⟩] (some ⟨W.heap.size, 0, none⟩) 1 (W.alloc (.cells #[.string ⟨#[46, 46]⟩] 9)) (by decide) (rds_cs (Cs.new W 9 _) rfl) (hT.below ((Below.refl _ _).alloc (Nat.le_refl _) _))
  rw [show mayL (LL [⟨#[46, 46]⟩]) = false from may_no] at h
  exact h.mono fun e W' ⟨he, hb⟩ => ⟨he, below_alloc _ hb⟩
theorem texts2 (W : World) (A : Option Addr) (c : Nat) (ls : List ByteArray) (hl : LL ls = [[97], [98]]) (h : RdS W A ls) :
    Calls Tryd.prog 16 #[.slice A 2 c, .slice (some ⟨W.heap.size, 0, none⟩) 2 2] (W.alloc (.cells #[.string ⟨#[97]⟩, .string ⟨#[98]⟩] 9)) fun e W' => e = .returned (.bool true) ∧ Below W.heap.size W W' := by
  have hn : ls.length = 2 := by rw [← LL_length, hl]; rfl
  have t := Texts_any ls [⟨#[97]⟩, ⟨#[98]⟩] A (some ⟨W.heap.size, 0, none⟩) c 2 (W.alloc (.cells #[.string ⟨#[97]⟩, .string ⟨#[98]⟩] 9)) (by omega) (by decide) (h.below ((Below.refl _ _).alloc (Nat.le_refl _) _)) (rds_cs (Cs.new W 9 _) rfl)
  rw [hn, show (LL ls == LL [⟨#[97]⟩, ⟨#[98]⟩]) = true by rw [hl]; rfl] at t
  exact t.mono fun e W' ⟨he, hb⟩ => ⟨he, below_alloc _ hb⟩

set_option maxRecDepth 100000 in
set_option maxHeartbeats 4000000 in
theorem lives_any (w : World) (hT : Tabs w) : Calls Tryd.prog 11 #[] w fun e W' => e = .returned (.bool true) ∧ Below w.heap.size w W' := by
  have HT := Lib.hid hT
  clear hT
  go_enter Tryd.func11, Tryd.ntmps11
  go_wp2_with fail
  refine (text3 _).mono ?_
  rintro e w1 ⟨rfl, hb1⟩
  go_wp2_with fail
  refine (runes3 _ (HT.out.below hb1)).mono ?_
  rintro e w2 ⟨rfl, hb2⟩
  have hb2 := below_chain hb1 hb2
  go_wp2_with fail
  refine (Path_ans ⟨#[97, 47, 98]⟩ (by decide) _ _ path_ab _ (HT.out.below hb2)).mono ?_
  rintro e w3 ⟨A, c, ls, rfl, hl, hr3, -, -, -, hb⟩
  have HLS := Lib.hid hl
  have hb3 := below_chain hb2 hb
  clear hl hb
  go_wp2_with fail
  refine (Path_ans ⟨#[]⟩ (by decide) _ _ rfl _ (HT.out.below hb3)).mono ?_
  rintro e w4 ⟨A4, c4, ls4, rfl, -, -, -, -, -, hb⟩
  have hr4 := hr3.below hb
  have hb4 := below_chain hb3 hb
  clear hb hr3
  go_wp2_with fail
  refine (Path_ans ⟨#[97, 47, 47, 98]⟩ (by decide) _ _ path_a_b _ (HT.out.below hb4)).mono ?_
  rintro e w5 ⟨A5, c5, ls5, rfl, -, -, -, -, -, hb⟩
  have hr5 := hr4.below hb
  have hb5 := below_chain hb4 hb
  clear hb hr4
  go_wp2_with fail
  refine (write2 _ (HT.out.below hb5)).mono ?_
  rintro e w6 ⟨rfl, hb⟩
  have hr6 := hr5.below hb
  have hb6 := below_chain hb5 hb
  clear hb hr5
  go_wp2_with fail
  refine (is_ans [97] _ n1 _ (HT.out.below hb6)).mono ?_
  rintro e w7 ⟨rfl, hb⟩
  have hr7 := hr6.below hb
  have hb7 := below_chain hb6 hb
  clear hb hr6
  go_wp2_with fail
  refine (is_ans [46, 46] _ n2 _ (HT.out.below hb7)).mono ?_
  rintro e w8 ⟨rfl, hb⟩
  have hr8 := hr7.below hb
  have hb8 := below_chain hb7 hb
  clear hb hr7
  go_wp2_with fail
  refine (is_ans [97, 47, 98] _ n3 _ (HT.out.below hb8)).mono ?_
  rintro e w9 ⟨rfl, hb⟩
  have hr9 := hr8.below hb
  have hb9 := below_chain hb8 hb
  clear hb hr8
  go_wp2_with fail
  refine (text2 _).mono ?_
  rintro e w10 ⟨rfl, hb⟩
  have hr10 := hr9.below hb
  have hb10 := below_chain hb9 hb
  clear hb hr9
  go_wp2_with fail
  refine (is_ans [195, 169] _ n4 _ (HT.out.below hb10)).mono ?_
  rintro e w11 ⟨rfl, hb⟩
  have hr11 := hr10.below hb
  have hb11 := below_chain hb10 hb
  clear hb hr10
  go_wp2_with fail
  refine (text1 _).mono ?_
  rintro e w12 ⟨rfl, hb⟩
  have hr12 := hr11.below hb
  have hb12 := below_chain hb11 hb
  clear hb hr11
  go_wp2_with fail
  refine (is_ans [255] _ n5 _ (HT.out.below hb12)).mono ?_
  rintro e w13 ⟨rfl, hb⟩
  have hr13 := hr12.below hb
  have hb13 := below_chain hb12 hb
  clear hb hr12
  go_wp2_with fail
  refine (textX _).mono ?_
  rintro e w14 ⟨rfl, hb⟩
  have hr14 := hr13.below hb
  have hb14 := below_chain hb13 hb
  clear hb hr13
  go_wp2_with fail
  refine (is_ans [239, 191, 189] _ n6 _ (HT.out.below hb14)).mono ?_
  rintro e w15 ⟨rfl, hb⟩
  have hr15 := hr14.below hb
  have hb15 := below_chain hb14 hb
  clear hb hr14
  go_wp2_with fail
  refine (texts2 _ _ _ _ HLS.out hr15).mono ?_
  rintro e w16 ⟨rfl, hb⟩
  have hb16 := below_chain hb15 hb
  clear hb hr15
  go_wp2_with fail
  refine (may1 _ (HT.out.below hb16)).mono ?_
  rintro e w17 ⟨rfl, hb⟩
  have hb17 := below_chain hb16 hb
  clear hb
  go_wp2_with fail
  go_ret
  exact ⟨rfl, hb17⟩
end Go.Proofs.YtmmkoonnklfjkaaDoor
