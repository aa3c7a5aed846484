/- The document's answer for layer 5: sum, Get. -/
import Derived.Test.YtlhbipommhljiaaSealRef1
namespace Go.Proofs.Ytlhbipommhljiaa
open Go.RowKit Go.Shelf
set_option linter.unusedVariables false
set_option linter.unusedSimpArgs false

theorem sumRef_any (n : Int) (h0 : 0 ≤ n) (h1 : n < 4294967296) (l : List UInt8) (A : Option Addr) (c : Nat) (hl : l.length ≤ 281474976710656) (w : World) (hr : Rd w A l) : Calls Try.prog 25 #[.int .u32 n, .slice A l.length c] w fun e w' =>
    e = .returned (.int .u32 (sumN n l : Nat)) ∧ Below w.heap.size w w' := by
  have hbs := PutRef_ok n 4 (by decide) h0 (by omega) w (by simp [fitsB, lim]; omega)
  rw [show ((4 : Nat) : Int) = 4 from rfl] at hbs
  have hof := fun g cap W h => OfRef_any (beL n 4) (some ⟨g, 0, none⟩) cap W (by rw [beL_length]; decide) h
  rw [beL_length] at hof
  have hmo := fun W h => MoreRef_any (ofN (beL n 4)) (moreN_lt _ _ (by decide)) l A c W hl h
  have hs : sumN n l = moreN (ofN (beL n 4)) l := rfl
  rw [hs]
  have h1' : n ≤ 4294967295 := by omega
  clear hs h1
  generalize ofN (beL n 4) = s at *
  have HR := Lib.hid hr
  clear hr
  go_enter Try.func25, Try.ntmps25
  go_wp2_with fail
  refine hbs.mono ?_
  clear hbs
  rintro e w1 ⟨g, cap, rfl, hr1, hb, -⟩
  have R1 := Lib.hid hr1
  clear hr1
  go_wp2_with fail
  refine (hof _ _ _ R1.out).mono ?_
  clear hof R1
  rintro e _ ⟨rfl, rfl⟩
  have HB := Lib.hid hb
  clear hb
  go_wp2_with fail
  refine (hmo _ (HR.out.below HB.out)).mono ?_
  clear hmo
  rintro e _ ⟨rfl, rfl⟩
  go_wp2_with fail
  go_ret
  exact ⟨rfl, HB.out⟩
theorem getV_last (x : Blk) (hx : x.length = 64) : getV (inner x) 44 4 = .tuple #[.int .u64 (lastOf x), .int .i64 0] := by
  have hl := inner_len x hx
  have e : (((inner x).drop 44).take 4) = (inner x).drop 44 := List.take_of_length_le (by rw [List.length_drop, hl]; decide)
  have e2 : lastOf x = beSum (seg (inner x) 44 4) := by
    unfold lastOf num4
    rw [← seg_cut (inner x) 44 4, e]
  rw [e2]
  unfold getV
  rw [if_neg (by simp [sizeB, placeB, hl]), if_neg (by rw [hl]; decide)]
  rfl
theorem lastOf_bd (x : Blk) : 0 ≤ lastOf x ∧ lastOf x < 4294967296 := num4_bd _
/-- what the document's Get hands back -/
def GetRefRet (x : Blk) (w : World) (e : Ending) (w' : World) : Prop :=
  Below w.heap.size w w' ∧ ((getE x ≠ 0 ∧ e = .returned (.tuple #[.int .u32 0, .slice none 0 0, .int .i64 (getE x)])) ∨
    (getE x = 0 ∧ ∃ g cap, e = .returned (.tuple #[.int .u32 (tag x 0), .slice (some ⟨g, 0, none⟩) 44 cap, .int .i64 0]) ∧ 44 ≤ cap ∧ cap ≤ 9223372036854775807 ∧ Rd w' (some ⟨g, 0, none⟩) (bodyOf x)))
set_option maxRecDepth 100000 in
set_option maxHeartbeats 1000000 in
theorem GetRef_0 (x : Blk) (hx : x.length = 64) (h0 : tag x 0 = 0) (w : World) : Calls Try.prog 10 #[bv x] w fun e w' => e = .returned (.tuple #[.int .u32 0, .slice none 0 0, .int .i64 5]) ∧ Below w.heap.size w w' := by
  have ht0 := tagRef_any x hx 0 (by decide)
  rw [show ((0 : Nat) : Int) = 0 from rfl] at ht0
  rw [h0] at ht0
  clear h0
  have HX := Lib.hid hx
  clear hx
  go_enter Try.func10, Try.ntmps10
  go_wp2_with (first
    | (refine wpList_box_blk rfl (.tmp 0) rfl x rfl ?_; intro g1 w1 hk hb hg; go_frame; have K1 := Lib.hid hk; have B1 := Lib.hid hb; clear hk hb hg)
    | (refine wpList_load_blk rfl _ rfl g1 0 rfl x HX.out (At.whole K1.out) ?_; go_frame))
  refine (ht0 _).mono ?_
  clear ht0
  rintro e w2 ⟨rfl, hb⟩
  have B2 := Lib.hid (below_chain B1.out hb)
  have K2 := Lib.hid (K1.out.below hb K1.out.lt)
  clear hb B1 K1
  go_wp2_with fail
  go_ret3
  exact ⟨rfl, B2.out⟩
set_option maxRecDepth 100000 in
set_option maxHeartbeats 1000000 in
theorem GetRef_1 (x : Blk) (hx : x.length = 64) (h0 : tag x 0 ≠ 0) (h1 : tag x 1 ≠ tag x 0) (w : World) : Calls Try.prog 10 #[bv x] w fun e w' => e = .returned (.tuple #[.int .u32 0, .slice none 0 0, .int .i64 5]) ∧ Below w.heap.size w w' := by
  have ht0 := tagRef_any x hx 0 (by decide)
  have ht1 := tagRef_any x hx 1 (by decide)
  rw [show ((0 : Nat) : Int) = 0 from rfl] at ht0
  rw [show ((1 : Nat) : Int) = 1 from rfl] at ht1
  have e0 : (tag x 0 == 0) = false := by simpa using h0
  have e1 : (tag x 1 != tag x 0) = true := by simpa using h1
  generalize tag x 0 = n at *
  generalize tag x 1 = n1 at *
  clear h0 h1
  have HX := Lib.hid hx
  clear hx
  go_enter Try.func10, Try.ntmps10
  go_wp2_with (first
    | (refine wpList_box_blk rfl (.tmp 0) rfl x rfl ?_; intro g1 w1 hk hb hg; go_frame; have K1 := Lib.hid hk; have B1 := Lib.hid hb; clear hk hb hg)
    | (refine wpList_load_blk rfl _ rfl g1 0 rfl x HX.out (At.whole K1.out) ?_; go_frame))
  refine (ht0 _).mono ?_
  clear ht0
  rintro e w2 ⟨rfl, hb⟩
  have B2 := Lib.hid (below_chain B1.out hb)
  have K2 := Lib.hid (K1.out.below hb K1.out.lt)
  clear hb B1 K1
  go_wp2_with (first | (refine wpList_load_blk_g (by kernel_rfl) _ rfl g1 0 rfl x HX.out (At.whole K2.out) ?_; go_frame))
  refine (ht1 _).mono ?_
  clear ht1
  rintro e w3 ⟨rfl, hb⟩
  have B3 := Lib.hid (below_chain B2.out hb)
  have K3 := Lib.hid (K2.out.below hb K2.out.lt)
  clear hb B2 K2
  go_wp2_with fail
  go_ret3
  exact ⟨rfl, B3.out⟩
set_option maxRecDepth 100000 in
set_option maxHeartbeats 1000000 in
theorem GetRef_2 (x : Blk) (hx : x.length = 64) (h0 : tag x 0 ≠ 0) (h1 : tag x 1 = tag x 0) (h2 : tag x 2 ≠ tag x 0) (w : World) : Calls Try.prog 10 #[bv x] w fun e w' => e = .returned (.tuple #[.int .u32 0, .slice none 0 0, .int .i64 5]) ∧ Below w.heap.size w w' := by
  have ht0 := tagRef_any x hx 0 (by decide)
  have ht1 := tagRef_any x hx 1 (by decide)
  have ht2 := tagRef_any x hx 2 (by decide)
  rw [show ((0 : Nat) : Int) = 0 from rfl] at ht0
  rw [show ((1 : Nat) : Int) = 1 from rfl] at ht1
  rw [show ((2 : Nat) : Int) = 2 from rfl] at ht2
  have e0 : (tag x 0 == 0) = false := by simpa using h0
  have e2 : (tag x 2 != tag x 0) = true := by simpa using h2
  rw [h1] at ht1
  generalize tag x 2 = n2 at *
  generalize tag x 0 = n at *
  clear h0 h1 h2
  have HX := Lib.hid hx
  clear hx
  go_enter Try.func10, Try.ntmps10
  go_wp2_with (first
    | (refine wpList_box_blk rfl (.tmp 0) rfl x rfl ?_; intro g1 w1 hk hb hg; go_frame; have K1 := Lib.hid hk; have B1 := Lib.hid hb; clear hk hb hg)
    | (refine wpList_load_blk rfl _ rfl g1 0 rfl x HX.out (At.whole K1.out) ?_; go_frame))
  refine (ht0 _).mono ?_
  clear ht0
  rintro e w2 ⟨rfl, hb⟩
  have B2 := Lib.hid (below_chain B1.out hb)
  have K2 := Lib.hid (K1.out.below hb K1.out.lt)
  clear hb B1 K1
  go_wp2_with (first | (refine wpList_load_blk_g (by kernel_rfl) _ rfl g1 0 rfl x HX.out (At.whole K2.out) ?_; go_frame))
  refine (ht1 _).mono ?_
  clear ht1
  rintro e w3 ⟨rfl, hb⟩
  have B3 := Lib.hid (below_chain B2.out hb)
  have K3 := Lib.hid (K2.out.below hb K2.out.lt)
  clear hb B2 K2
  go_wp2_with (first | (refine wpList_load_blk_g (by kernel_rfl) _ rfl g1 0 rfl x HX.out (At.whole K3.out) ?_; go_frame))
  refine (ht2 _).mono ?_
  clear ht2
  rintro e w4 ⟨rfl, hb⟩
  have B4 := Lib.hid (below_chain B3.out hb)
  have K4 := Lib.hid (K3.out.below hb K3.out.lt)
  clear hb B3 K3
  go_wp2_with fail
  go_ret3
  exact ⟨rfl, B4.out⟩
set_option maxRecDepth 100000 in
set_option maxHeartbeats 1000000 in
theorem GetRef_3 (x : Blk) (hx : x.length = 64) (h0 : tag x 0 ≠ 0) (h1 : tag x 1 = tag x 0) (h2 : tag x 2 = tag x 0) (h3 : tag x 3 ≠ tag x 0) (w : World) : Calls Try.prog 10 #[bv x] w fun e w' => e = .returned (.tuple #[.int .u32 0, .slice none 0 0, .int .i64 5]) ∧ Below w.heap.size w w' := by
  have ht0 := tagRef_any x hx 0 (by decide)
  have ht1 := tagRef_any x hx 1 (by decide)
  have ht2 := tagRef_any x hx 2 (by decide)
  have ht3 := tagRef_any x hx 3 (by decide)
  rw [show ((0 : Nat) : Int) = 0 from rfl] at ht0
  rw [show ((1 : Nat) : Int) = 1 from rfl] at ht1
  rw [show ((2 : Nat) : Int) = 2 from rfl] at ht2
  rw [show ((3 : Nat) : Int) = 3 from rfl] at ht3
  have e0 : (tag x 0 == 0) = false := by simpa using h0
  have e3 : (tag x 3 != tag x 0) = true := by simpa using h3
  rw [h1] at ht1
  rw [h2] at ht2
  generalize tag x 3 = n3 at *
  generalize tag x 0 = n at *
  clear h0 h1 h2 h3
  have HX := Lib.hid hx
  clear hx
  go_enter Try.func10, Try.ntmps10
  go_wp2_with (first
    | (refine wpList_box_blk rfl (.tmp 0) rfl x rfl ?_; intro g1 w1 hk hb hg; go_frame; have K1 := Lib.hid hk; have B1 := Lib.hid hb; clear hk hb hg)
    | (refine wpList_load_blk rfl _ rfl g1 0 rfl x HX.out (At.whole K1.out) ?_; go_frame))
  refine (ht0 _).mono ?_
  clear ht0
  rintro e w2 ⟨rfl, hb⟩
  have B2 := Lib.hid (below_chain B1.out hb)
  have K2 := Lib.hid (K1.out.below hb K1.out.lt)
  clear hb B1 K1
  go_wp2_with (first | (refine wpList_load_blk_g (by kernel_rfl) _ rfl g1 0 rfl x HX.out (At.whole K2.out) ?_; go_frame))
  refine (ht1 _).mono ?_
  clear ht1
  rintro e w3 ⟨rfl, hb⟩
  have B3 := Lib.hid (below_chain B2.out hb)
  have K3 := Lib.hid (K2.out.below hb K2.out.lt)
  clear hb B2 K2
  go_wp2_with (first | (refine wpList_load_blk_g (by kernel_rfl) _ rfl g1 0 rfl x HX.out (At.whole K3.out) ?_; go_frame))
  refine (ht2 _).mono ?_
  clear ht2
  rintro e w4 ⟨rfl, hb⟩
  have B4 := Lib.hid (below_chain B3.out hb)
  have K4 := Lib.hid (K3.out.below hb K3.out.lt)
  clear hb B3 K3
  go_wp2_with (first | (refine wpList_load_blk_g (by kernel_rfl) _ rfl g1 0 rfl x HX.out (At.whole K4.out) ?_; go_frame))
  refine (ht3 _).mono ?_
  clear ht3
  rintro e w5 ⟨rfl, hb⟩
  have B5 := Lib.hid (below_chain B4.out hb)
  have K5 := Lib.hid (K4.out.below hb K4.out.lt)
  clear hb B4 K4
  go_wp2_with fail
  go_ret3
  exact ⟨rfl, B5.out⟩
set_option maxHeartbeats 2000000 in
theorem GetRef_ok (x : Blk) (hx : x.length = 64) (hf : formed x = true) (w : World) : Calls Try.prog 10 #[bv x] w fun e w' => GetRefRet x w e w' := by
  have ht0 := tagRef_any x hx 0 (by decide)
  have ht1 := tagRef_any x hx 1 (by decide)
  have ht2 := tagRef_any x hx 2 (by decide)
  have ht3 := tagRef_any x hx 3 (by decide)
  obtain ⟨-, h0, h1, h2, h3⟩ := formed_of hf
  rw [show ((0 : Nat) : Int) = 0 from rfl] at ht0
  rw [show ((1 : Nat) : Int) = 1 from rfl] at ht1
  rw [show ((2 : Nat) : Int) = 2 from rfl] at ht2
  rw [show ((3 : Nat) : Int) = 3 from rfl] at ht3
  rw [h1] at ht1
  rw [h2] at ht2
  rw [h3] at ht3
  have e0 : (tag x 0 == 0) = false := by simpa using h0
  have hbd := tag_bd x 0
  have hbl := lastOf_bd x
  have hw : IntKind.u32.wrap (lastOf x) = lastOf x := by rw [IntKind.wrap_u32]; omega
  have hin := innerRef_any x hx
  have hlast := fun g c W hc h => GetRef_any (inner x) (some ⟨g, 0, none⟩) c 44 4 W (by rw [inner_len x hx]; decide) (by rw [inner_len x hx]; exact hc) h
  rw [getV_last x hx, inner_len x hx] at hlast
  have hsum := fun g c W h => sumRef_any (tag x 0) hbd.1 hbd.2 (bodyOf x) (some ⟨g, 0, none⟩) c (by rw [bodyOf_len x hx]; decide) W h
  rw [bodyOf_len x hx] at hsum
  have HG := Lib.hid (getE_good hf)
  unfold GetRefRet
  generalize hge : getE x = ge at *
  clear hge
  have HX := Lib.hid hx
  have hbl0 := hbl.1
  have hbl1 : lastOf x ≤ 4294967295 := by omega
  generalize sumN (tag x 0) (bodyOf x) = sn at *
  generalize lastOf x = ln at *
  generalize tag x 0 = n at *
  clear hx h0 h1 h2 h3 hf hbd hbl
  go_enter Try.func10, Try.ntmps10
  go_wp2_with (first
    | (refine wpList_box_blk rfl (.tmp 0) rfl x rfl ?_; intro g1 w1 hk hb hg; go_frame; have K1 := Lib.hid hk; have B1 := Lib.hid hb; clear hk hb hg)
    | (refine wpList_load_blk rfl _ rfl g1 0 rfl x HX.out (At.whole K1.out) ?_; go_frame))
  refine (ht0 _).mono ?_
  clear ht0
  rintro e w2 ⟨rfl, hb⟩
  have B2 := Lib.hid (below_chain B1.out hb)
  have K2 := Lib.hid (K1.out.below hb K1.out.lt)
  clear hb B1 K1
  go_wp2_with (first | (refine wpList_load_blk_g (by kernel_rfl) _ rfl g1 0 rfl x HX.out (At.whole K2.out) ?_; go_frame))
  refine (ht1 _).mono ?_
  clear ht1
  rintro e w3 ⟨rfl, hb⟩
  have B3 := Lib.hid (below_chain B2.out hb)
  have K3 := Lib.hid (K2.out.below hb K2.out.lt)
  clear hb B2 K2
  go_wp2_with (first | (refine wpList_load_blk_g (by kernel_rfl) _ rfl g1 0 rfl x HX.out (At.whole K3.out) ?_; go_frame))
  refine (ht2 _).mono ?_
  clear ht2
  rintro e w4 ⟨rfl, hb⟩
  have B4 := Lib.hid (below_chain B3.out hb)
  have K4 := Lib.hid (K3.out.below hb K3.out.lt)
  clear hb B3 K3
  go_wp2_with (first | (refine wpList_load_blk_g (by kernel_rfl) _ rfl g1 0 rfl x HX.out (At.whole K4.out) ?_; go_frame))
  refine (ht3 _).mono ?_
  clear ht3
  rintro e w5 ⟨rfl, hb⟩
  have B5 := Lib.hid (below_chain B4.out hb)
  have K5 := Lib.hid (K4.out.below hb K4.out.lt)
  clear hb B4 K4
  go_wp2_with (first | (refine wpList_load_blk rfl _ rfl g1 0 rfl x HX.out (At.whole K5.out) ?_; go_frame))
  refine (hin _).mono ?_
  clear hin
  rintro e w6 ⟨g6, cap, rfl, hc6, hm6, hr6, hb6⟩
  have B6 := Lib.hid (below_chain B5.out hb6)
  have R6 := Lib.hid hr6
  have C6 := Lib.hid hc6
  have hc6' : 44 ≤ cap := by omega
  clear hb6 hr6 B5 K5 hc6
  go_wp2_with fail
  refine (hlast _ _ _ C6.out R6.out).mono ?_
  clear hlast
  rintro e _ ⟨rfl, rfl⟩
  go_wp2_with fail
  have RB := Lib.hid (show Rd w6 (some ⟨g6, 0, none⟩) (bodyOf x) from rd_take R6.out 44)
  refine (hsum _ _ _ RB.out).mono ?_
  clear hsum
  rintro e w7 ⟨rfl, hb7⟩
  have B7 := Lib.hid (below_chain B6.out hb7)
  have RB7 := Lib.hid (RB.out.below hb7)
  clear hb7 B6 RB R6
  by_cases he : ln = (sn : Int)
  · subst he
    have hge : ge = 0 := by rw [HG.out, if_pos rfl]
    subst hge
    go_wp2_with fail
    go_region
    go_wp2
    go_ret3
    exact ⟨B7.out.drew, g6, cap, rfl, hc6', hm6, RB7.out.below (Below.refl _ _).drew⟩
  · have hge : ge = 6 := by rw [HG.out, if_neg he]
    subst hge
    have he' : (ln == (sn : Int)) = false := by simpa using he
    clear he
    go_wp2_with fail
    go_ret3
    exact ⟨B7.out, .inl ⟨by decide, rfl⟩⟩
theorem SGetRef_any (x : Blk) (hx : x.length = 64) (w : World) : Calls Try.prog 10 #[bv x] w fun e w' => GetRefRet x w e w' := by
  rcases hf : formed x with _ | _
  · have mk : ∀ e w', (e = .returned (.tuple #[.int .u32 0, .slice none 0 0, .int .i64 5]) ∧ Below w.heap.size w w') → GetRefRet x w e w' := fun e w' ⟨he, hb⟩ => ⟨hb, .inl ⟨by rw [getE_bad hf]; decide, by rw [getE_bad hf]; exact he⟩⟩
    by_cases h0 : tag x 0 = 0
    · exact (GetRef_0 x hx h0 w).mono mk
    by_cases h1 : tag x 1 = tag x 0
    · by_cases h2 : tag x 2 = tag x 0
      · by_cases h3 : tag x 3 = tag x 0
        · have : formed x = true := by simp [formed, isOfB, h0, h1, h2, h3]
          rw [this] at hf
          cases hf
        · exact (GetRef_3 x hx h0 h1 h2 h3 w).mono mk
      · exact (GetRef_2 x hx h0 h1 h2 w).mono mk
    · exact (GetRef_1 x hx h0 h1 w).mono mk
  · exact GetRef_ok x hx hf w

end Go.Proofs.Ytlhbipommhljiaa
