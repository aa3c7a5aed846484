/- lives: the one example of each function. -/
import Derived.Test.YtlhbipommhljiaaSealSpoil
import Derived.Test.YtlhbipommhljiaaSealLives0
namespace Go.Proofs.Ytlhbipommhljiaa
open Go.RowKit Go.Shelf
set_option linter.unusedVariables false
set_option linter.unusedSimpArgs false

theorem mk45 (W : World) : (Instr.makeSlice 23 (.int .i64 45) (.int .i64 45)).run Try.prog W = .ok (.slice (some ⟨W.heap.size, 0, none⟩) 45 45) (W.alloc (.cells (cellsOf z45).toArray 5)) := by
  obtain ⟨i0, hi, hz0, hz1, hz2⟩ := info_parts Try_info5
  have h := run_make (P := Try.prog) W 23 5 i0 (.int .u8 0) Try.underlying23 hi hz0 .i64 .i64 45 45 (by omega) (by omega) (by rw [hz2]; omega) (by omega)
  have e45 : (cellsOf z45).toArray = zeros 45 := by kernel_rfl
  rw [h, hz1, e45]
  rw [show Int.toNat 45 * 1 = 45 from rfl]
  congr 3
  apply Array.ext
  · simp [zeros, size_madeCells]
  · intro j h1 h2
    simp [madeCells, zeros, Value.cells, Nat.mod_one]
theorem lput1 (w : World) : Calls Try.prog 7 #[.int .u32 0, .slice none 0 0] w fun e w' => e = .returned (.tuple #[bv zb, .int .i64 2]) ∧ Below w.heap.size w w' := by
  have h := Put_any 0 [] none 0 w (by decide) (by decide) (by decide) (.inl rfl)
  rw [e0.1, p0.1] at h
  exact h
theorem lput2 (g : Nat) (w : World) (hr : Rd w (some ⟨g, 0, none⟩) z45) : Calls Try.prog 7 #[.int .u32 0, .slice (some ⟨g, 0, none⟩) 45 45] w fun e w' => e = .returned (.tuple #[bv zb, .int .i64 3]) ∧ Below w.heap.size w w' := by
  have h := Put_any 0 z45 (some ⟨g, 0, none⟩) 45 w (by decide) (by decide) (by decide) hr
  rw [e0.2.1, p0.2, z45_len] at h
  exact h
theorem lput3 (g : Nat) (w : World) (hr : Rd w (some ⟨g, 0, none⟩) [7]) : Calls Try.prog 7 #[.int .u32 258, .slice (some ⟨g, 0, none⟩) 1 1] w fun e w' => e = .returned (.tuple #[bv b258, .int .i64 0]) ∧ Below w.heap.size w w' := by
  have h := Put_any 258 [7] (some ⟨g, 0, none⟩) 1 w (by decide) (by decide) (by decide) hr
  rw [e0.2.2.1] at h
  exact h
theorem lput4 (w : World) : Calls Try.prog 7 #[.int .u32 5, .slice none 0 0] w fun e w' => e = .returned (.tuple #[bv b5, .int .i64 0]) ∧ Below w.heap.size w w' := by
  have h := Put_any 5 [] none 0 w (by decide) (by decide) (by decide) (.inl rfl)
  rw [e0.2.2.2.1] at h
  exact h
theorem lput5 (w : World) : Calls Try.prog 7 #[.int .u32 6, .slice none 0 0] w fun e w' => e = .returned (.tuple #[bv b6, .int .i64 0]) ∧ Below w.heap.size w w' := by
  have h := Put_any 6 [] none 0 w (by decide) (by decide) (by decide) (.inl rfl)
  rw [e0.2.2.2.2] at h
  exact h
theorem get_bad (x : Blk) (hx : x.length = 64) (h5 : getE x = 5) (w : World) : Calls Try.prog 9 #[bv x] w fun e w' => e = .returned (.tuple #[.int .u32 0, .slice none 0 0, .int .i64 5]) ∧ Below w.heap.size w w' :=
  (SGet_any x hx w).mono fun e w' ⟨hb, h⟩ => by
    rcases h with ⟨_, he⟩ | ⟨h0, _⟩
    · rw [h5] at he
      exact ⟨he, hb⟩
    · rw [h5] at h0
      cases h0
theorem lmix (w : World) : Calls Try.prog 16 #[bv b5, bv b6, .int .u8 2] w fun e w' => e = .returned (bv bmix) ∧ Below w.heap.size w w' := Mix_any b5 b6 2 w b5_len b6_len (by decide) (by decide)
theorem lmix31 (w : World) : Calls Try.prog 16 #[bv b5, bv b6, .int .u8 31] w fun e w' => e = .returned (bv bmix31) ∧ Below w.heap.size w w' := Mix_any b5 b6 31 w b5_len b6_len (by decide) (by decide)
theorem lgr (w : World) : Calls Try.prog 14 #[bv bmix] w fun e w' => e = .returned (.int .u32 6) ∧ Below w.heap.size w w' := by
  have h := Greatest_any bmix bmix_len w
  rw [g0.2.2.1] at h
  exact h
theorem lgr31 (w : World) : Calls Try.prog 14 #[bv bmix31] w fun e w' => e = .returned (.int .u32 6) ∧ Below w.heap.size w w' := by
  have h := Greatest_any bmix31 bmix31_len w
  rw [g0.2.2.2] at h
  exact h
set_option maxRecDepth 100000 in
set_option maxHeartbeats 4000000 in
theorem lives_any (w : World) : Calls Try.prog 18 #[] w fun e W' => e = .returned (.bool true) ∧ Below w.heap.size w W' := by
  have hmk := mk45
  have BW0 := Lib.hid (Below.refl w.heap.size w)
  go_enter Try.func18, Try.ntmps18
  go_wp2_with fail
  refine (lput1 _).mono ?_
  rintro e v1 ⟨rfl, hbc⟩
  have BW1 := Lib.hid (below_chain BW0.out hbc)
  clear BW0
  clear hbc
  go_wp2_with (first 
    | (refine wpList_alloc_blk rfl rfl ?_; intro g1 u1 hk hb hg; go_frame; have KA1 := Lib.hid hk; have BA1 := Lib.hid hb; have GA1 := Lib.hid hg; clear hk hb hg) 
    | (refine wpList_fill_blk rfl (.tmp 1) _ rfl g1 rfl zb rfl zb_len KA1.out ?_; intro x1 hk hr; go_frame; have KF1 := Lib.hid hk; have BF1 := Lib.hid (keep_own BA1.out hr GA1.out); clear hk hr))
  have BW2 := Lib.hid (below_chain BW1.out BF1.out)
  clear BW1
  clear KA1 BA1 GA1 KF1 BF1
  have c2 := Cs.new x1 5 (cellsOf z45).toArray
  have b2 := (Below.refl x1.heap.size x1).alloc (Nat.le_refl _) (.cells (cellsOf z45).toArray 5)
  have R2 := Lib.hid (show Rd (x1.alloc (.cells (cellsOf z45).toArray 5)) (some ⟨x1.heap.size, 0, none⟩) z45 by have := rd_part c2 0 45; rwa [List.drop_zero, List.take_of_length_le (by rw [z45_len]; exact Nat.le_refl _)] at this)
  clear c2 hmk
  have BW3 := Lib.hid (below_chain BW2.out b2)
  clear BW2
  clear b2
  generalize x1.alloc (.cells (cellsOf z45).toArray 5) = x1b at *
  generalize x1.heap.size = gz at *
  refine (lput2 _ _ R2.out).mono ?_
  rintro e v2 ⟨rfl, hbc⟩
  have BW4 := Lib.hid (below_chain BW3.out hbc)
  clear BW3
  clear hbc
  clear R2
  go_wp2_with (first 
    | (refine wpList_alloc_blk rfl rfl ?_; intro g3 u2 hk hb hg; go_frame; have KA3 := Lib.hid hk; have BA3 := Lib.hid hb; have GA3 := Lib.hid hg; clear hk hb hg) 
    | (refine wpList_fill_blk rfl (.tmp 3) _ rfl g3 rfl zb rfl zb_len KA3.out ?_; intro x2 hk hr; go_frame; have KF3 := Lib.hid hk; have BF3 := Lib.hid (keep_own BA3.out hr GA3.out); clear hk hr))
  have BW5 := Lib.hid (below_chain BW4.out BF3.out)
  clear BW4
  clear KA3 BA3 GA3 KF3 BF3
  have c3 := Cs.new x2 5 #[.int .u8 7]
  have b3 := (Below.refl x2.heap.size x2).alloc (Nat.le_refl _) (.cells #[.int .u8 7] 5)
  have R3 := Lib.hid (rd_cs (l := [7]) c3 rfl)
  clear c3
  have BW6 := Lib.hid (below_chain BW5.out b3)
  clear BW5
  clear b3
  generalize x2.alloc (.cells #[.int .u8 7] 5) = x2b at *
  generalize x2.heap.size = g7s at *
  refine (lput3 _ _ R3.out).mono ?_
  rintro e v3 ⟨rfl, hbc⟩
  have BW7 := Lib.hid (below_chain BW6.out hbc)
  clear BW6
  clear hbc
  clear R3
  go_wp2_with (first 
    | (refine wpList_alloc_blk rfl rfl ?_; intro g5 u3 hk hb hg; go_frame; have KA5 := Lib.hid hk; have BA5 := Lib.hid hb; have GA5 := Lib.hid hg; clear hk hb hg) 
    | (refine wpList_fill_blk rfl (.tmp 5) _ rfl g5 rfl b258 rfl b258_len KA5.out ?_; intro x3 hk hr; go_frame; have KF5 := Lib.hid hk; have BF5 := Lib.hid (keep_own BA5.out hr GA5.out); clear hk hr))
  have BW8 := Lib.hid (below_chain BW7.out BF5.out)
  clear BW7
  have K5_8 := KF5
  clear KA5 BA5 GA5 KF5 BF5
  refine (lput4 _).mono ?_
  rintro e v4 ⟨rfl, hbc⟩
  have BW9 := Lib.hid (below_chain BW8.out hbc)
  have K5_9 := Lib.hid (K5_8.out.below hbc K5_8.out.lt)
  clear BW8 K5_8
  clear hbc
  go_wp2_with (first 
    | (refine wpList_alloc_blk rfl rfl ?_; intro g7 u4 hk hb hg; go_frame; have KA7 := Lib.hid hk; have BA7 := Lib.hid hb; have GA7 := Lib.hid hg; clear hk hb hg) 
    | (refine wpList_fill_blk rfl (.tmp 7) _ rfl g7 rfl b5 rfl b5_len KA7.out ?_; intro x4 hk hr; go_frame; have KF7 := Lib.hid hk; have BF7 := Lib.hid (keep_own BA7.out hr GA7.out); clear hk hr))
  have BW10 := Lib.hid (below_chain BW9.out BF7.out)
  have K5_10 := Lib.hid (K5_9.out.below BF7.out K5_9.out.lt)
  clear BW9 K5_9
  have K7_10 := KF7
  clear KA7 BA7 GA7 KF7 BF7
  refine (lput5 _).mono ?_
  rintro e v5 ⟨rfl, hbc⟩
  have BW11 := Lib.hid (below_chain BW10.out hbc)
  have K5_11 := Lib.hid (K5_10.out.below hbc K5_10.out.lt)
  have K7_11 := Lib.hid (K7_10.out.below hbc K7_10.out.lt)
  clear BW10 K5_10 K7_10
  clear hbc
  go_wp2_with (first 
    | (refine wpList_alloc_blk rfl rfl ?_; intro g9 u5 hk hb hg; go_frame; have KA9 := Lib.hid hk; have BA9 := Lib.hid hb; have GA9 := Lib.hid hg; clear hk hb hg) 
    | (refine wpList_fill_blk rfl (.tmp 9) _ rfl g9 rfl b6 rfl b6_len KA9.out ?_; intro x5 hk hr; go_frame; have KF9 := Lib.hid hk; have BF9 := Lib.hid (keep_own BA9.out hr GA9.out); clear hk hr) 
    | (refine wpList_build_zero rfl rfl ?_; go_frame))
  have BW12 := Lib.hid (below_chain BW11.out BF9.out)
  have K5_12 := Lib.hid (K5_11.out.below BF9.out K5_11.out.lt)
  have K7_12 := Lib.hid (K7_11.out.below BF9.out K7_11.out.lt)
  clear BW11 K5_11 K7_11
  have K9_12 := KF9
  clear KA9 BA9 GA9 KF9 BF9
  refine (get_bad zb zb_len g0.1 _).mono ?_
  rintro e v6 ⟨rfl, hbc⟩
  have BW13 := Lib.hid (below_chain BW12.out hbc)
  have K5_13 := Lib.hid (K5_12.out.below hbc K5_12.out.lt)
  have K7_13 := Lib.hid (K7_12.out.below hbc K7_12.out.lt)
  have K9_13 := Lib.hid (K9_12.out.below hbc K9_12.out.lt)
  clear BW12 K5_12 K7_12 K9_12
  clear hbc
  go_wp2_with (first 
    | (refine wpList_load_blk rfl (.tmp 7) rfl g7 0 rfl b5 b5_len (At.whole K7_13.out) ?_; go_frame) 
    | (refine wpList_load_blk rfl (.tmp 9) rfl g9 0 rfl b6 b6_len (At.whole K9_13.out) ?_; go_frame))
  refine (lmix _).mono ?_
  rintro e v7 ⟨rfl, hbc⟩
  have BW14 := Lib.hid (below_chain BW13.out hbc)
  have K5_14 := Lib.hid (K5_13.out.below hbc K5_13.out.lt)
  have K7_14 := Lib.hid (K7_13.out.below hbc K7_13.out.lt)
  have K9_14 := Lib.hid (K9_13.out.below hbc K9_13.out.lt)
  clear BW13 K5_13 K7_13 K9_13
  clear hbc
  go_wp2_with (first 
    | (refine wpList_alloc_blk rfl rfl ?_; intro g14 u7 hk hb hg; go_frame; have KA14 := Lib.hid hk; have BA14 := Lib.hid hb; have GA14 := Lib.hid hg; clear hk hb hg) 
    | (refine wpList_fill_blk rfl (.tmp 14) _ rfl g14 rfl bmix rfl bmix_len KA14.out ?_; intro x7 hk hr; go_frame; have KF14 := Lib.hid hk; have BF14 := Lib.hid (keep_own BA14.out hr GA14.out); clear hk hr) 
    | (refine wpList_load_blk rfl (.tmp 14) rfl g14 0 rfl bmix bmix_len (At.whole KF14.out) ?_; go_frame))
  have BW15 := Lib.hid (below_chain BW14.out BF14.out)
  have K5_15 := Lib.hid (K5_14.out.below BF14.out K5_14.out.lt)
  have K7_15 := Lib.hid (K7_14.out.below BF14.out K7_14.out.lt)
  have K9_15 := Lib.hid (K9_14.out.below BF14.out K9_14.out.lt)
  clear BW14 K5_14 K7_14 K9_14
  have K14_15 := KF14
  clear KA14 BA14 GA14 KF14 BF14
  refine (get_bad bmix bmix_len g0.2.1 _).mono ?_
  rintro e v8 ⟨rfl, hbc⟩
  have BW16 := Lib.hid (below_chain BW15.out hbc)
  have K5_16 := Lib.hid (K5_15.out.below hbc K5_15.out.lt)
  have K7_16 := Lib.hid (K7_15.out.below hbc K7_15.out.lt)
  have K9_16 := Lib.hid (K9_15.out.below hbc K9_15.out.lt)
  have K14_16 := Lib.hid (K14_15.out.below hbc K14_15.out.lt)
  clear BW15 K5_15 K7_15 K9_15 K14_15
  clear hbc
  go_wp2_with fail
  have c9 := Cs.new v8 5 #[.int .u8 0, .int .u8 0, .int .u8 1, .int .u8 2, .int .u8 7, .int .u8 0]
  have b9 := (Below.refl v8.heap.size v8).alloc (Nat.le_refl _) (.cells #[.int .u8 0, .int .u8 0, .int .u8 1, .int .u8 2, .int .u8 7, .int .u8 0] 5)
  have R9 := Lib.hid (rd_cs (l := [0, 0, 1, 2, 7, 0]) c9 rfl)
  clear c9
  have BW17 := Lib.hid (below_chain BW16.out b9)
  have K5_17 := Lib.hid (K5_16.out.below b9 K5_16.out.lt)
  have K7_17 := Lib.hid (K7_16.out.below b9 K7_16.out.lt)
  have K9_17 := Lib.hid (K9_16.out.below b9 K9_16.out.lt)
  have K14_17 := Lib.hid (K14_16.out.below b9 K14_16.out.lt)
  clear BW16 K5_16 K7_16 K9_16 K14_16
  clear b9
  generalize v8.alloc (.cells #[.int .u8 0, .int .u8 0, .int .u8 1, .int .u8 2, .int .u8 7, .int .u8 0] 5) = v9 at *
  generalize v8.heap.size = g9s at *
  have RX := Lib.hid (show Rd v9 (some ⟨g5, 0, none⟩) [0, 0, 1, 2, 7, 0] by have := rd_part K5_17.out 0 6; rwa [List.drop_zero, x6] at this)
  have e18 : v9.cell? ⟨g5, 18, none⟩ = some (.int .u8 1) := by have := cs_byte K5_17.out 18 (by rw [b258_len]; decide); rw [getD_get, x18] at this; exact this
  have hsame := Same_any (some ⟨g5, 0, none⟩) (some ⟨g9s, 0, none⟩) [0, 0, 1, 2, 7, 0] [0, 0, 1, 2, 7, 0] 64 6 v9 RX.out R9.out
  rw [show (([0, 0, 1, 2, 7, 0] : List UInt8) == [0, 0, 1, 2, 7, 0]) = true by decide] at hsame
  refine hsame.mono ?_
  clear hsame RX R9
  rintro e _ ⟨rfl, rfl⟩
  go_wp2_with (first 
    | (refine wpList_load_blk_g (by kernel_rfl) (.tmp 14) rfl g14 0 rfl bmix bmix_len (At.whole K14_17.out) ?_; go_frame))
  clear e18
  refine (lgr _).mono ?_
  rintro e v10 ⟨rfl, hbc⟩
  have BW18 := Lib.hid (below_chain BW17.out hbc)
  have K5_18 := Lib.hid (K5_17.out.below hbc K5_17.out.lt)
  have K7_18 := Lib.hid (K7_17.out.below hbc K7_17.out.lt)
  have K9_18 := Lib.hid (K9_17.out.below hbc K9_17.out.lt)
  have K14_18 := Lib.hid (K14_17.out.below hbc K14_17.out.lt)
  clear BW17 K5_17 K7_17 K9_17 K14_17
  clear hbc
  go_wp2_with (first 
    | (refine wpList_load_blk_g (by kernel_rfl) (.tmp 7) rfl g7 0 rfl b5 b5_len (At.whole K7_18.out) ?_; go_frame) 
    | (refine wpList_load_blk_g (by kernel_rfl) (.tmp 9) rfl g9 0 rfl b6 b6_len (At.whole K9_18.out) ?_; go_frame))
  refine (lmix31 _).mono ?_
  rintro e v11 ⟨rfl, hbc⟩
  have BW19 := Lib.hid (below_chain BW18.out hbc)
  have K5_19 := Lib.hid (K5_18.out.below hbc K5_18.out.lt)
  have K7_19 := Lib.hid (K7_18.out.below hbc K7_18.out.lt)
  have K9_19 := Lib.hid (K9_18.out.below hbc K9_18.out.lt)
  have K14_19 := Lib.hid (K14_18.out.below hbc K14_18.out.lt)
  clear BW18 K5_18 K7_18 K9_18 K14_18
  clear hbc
  go_wp2_with fail
  refine (lgr31 _).mono ?_
  rintro e v12 ⟨rfl, hbc⟩
  have BW20 := Lib.hid (below_chain BW19.out hbc)
  have K5_20 := Lib.hid (K5_19.out.below hbc K5_19.out.lt)
  have K7_20 := Lib.hid (K7_19.out.below hbc K7_19.out.lt)
  have K9_20 := Lib.hid (K9_19.out.below hbc K9_19.out.lt)
  have K14_20 := Lib.hid (K14_19.out.below hbc K14_19.out.lt)
  clear BW19 K5_19 K7_19 K9_19 K14_19
  clear hbc
  go_wp2_with fail
  go_ret
  exact ⟨rfl, BW20.out⟩

end Go.Proofs.Ytlhbipommhljiaa
