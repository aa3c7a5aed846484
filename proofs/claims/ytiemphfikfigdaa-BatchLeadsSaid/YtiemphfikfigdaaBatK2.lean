/- batch: rise, May, MayChange, Shared. -/
import Derived.Test.YtiemphfikfigdaaBatK1
namespace Go.Proofs.Ytiemphfikfigdaa
open Go.RowKit Go.Shelf
set_option linter.unusedVariables false
set_option maxRecDepth 100000
set_option linter.unusedSimpArgs false

theorem leq_true {a b : Key} (h : lessK a b = false) : (lessK b a || b == a) = true := by
  cases h2 : lessK b a
  · rw [lessK_total h h2]; simp
  · simp
theorem leq_false {a b : Key} (h : lessK a b = true) : (lessK b a || b == a) = false := by
  rw [lessK_asymm h]
  simpa using (lessK_ne h).symm
set_option maxHeartbeats 2000000 in
theorem rise_row (t : List Rw) (A : Option Addr) (c : Nat) (F : Nat → Prop) (w : World) (hs : SmallR t) (hr : RdX rowE w F A t) :
    Calls Try.prog 50 #[.slice A t.length c, .func (.func 45) #[] #[]] w fun e w' => e = .returned (.bool (riseP [] (t.map (·.1)))) ∧ Below w.heap.size w w' := by
  have hl := hs.1
  have hl' : (t.length : Int) ≤ 9223372036854775807 := by omega
  have HS := Lib.hid hs.2
  have HR := Lib.hid hr
  have hlb := less_bytes
  clear hs hr hl
  go_enter Try.func50, Try.ntmps50
  go_wp2_with fail
  go_loopw [5, 11] (fun a j wr => ∃ k : Nat, j = .int .i64 k ∧ a = .string ⟨(aheadK (t.map (·.1)) k).toArray⟩ ∧ k ≤ t.length ∧ riseP [] ((t.map (·.1)).take k) = true ∧ Below w.heap.size w wr) (fun _ j _ => t.length - (RowKit.intOf j).toNat)
  case atStart => exact ⟨0, rfl, rfl, Nat.zero_le _, rfl, Below.refl _ _⟩
  case round =>
    obtain ⟨k, rfl, rfl, hk0, hI, hB⟩ := hrel
    have HI := Lib.hid hI
    have HB := Lib.hid hB
    clear hI hB
    by_cases hk : k < t.length
    · obtain ⟨b, off, A1, c1, rfl, hat, hbv⟩ := row_rd (HR.out.below HB.out) k hk
      have hsz := HS.out _ (List.getElem_mem hk)
      have hsz' : (t[k].1.length : Int) ≤ 9223372036854775807 := by omega
      have HAT := Lib.hid hat
      have hk' : (k : Int) < (t.length : Int) := by omega
      have hmk : k < (t.map (·.1)).length := map_take1 hk
      have T1 := Lib.hid (rise_take hmk)
      have T2 := Lib.hid (fun h => rise_no hmk h)
      have T3 := Lib.hid (aheadK_succ hmk)
      rw [List.getElem_map] at T1 T2 T3
      generalize aheadK (t.map (·.1)) k = last at *
      generalize t[k] = x at *
      clear hat hbv hsz
      have hkey := fun u => keyOfRow_any x A1 c1 u
      have HK := Lib.hid hkey
      clear hkey
      obtain ⟨m, hm⟩ : ∃ m, lessK last x.1 = m := ⟨_, rfl⟩
      rw [hm] at T1 T2
      cases m
      · have f3 := leq_true hm
        clear hm
        go_wp2_with (first
          | ((with_reducible show wpList _ _ _ _ _ wr); refine wpList_load_agg rfl 50 _ rfl b (off + k * 2) rfl (rwCells x A1 c1) HAT.out _ Try.underlying50 rfl (infoRw x A1 c1) ?_; go_frame)
          | ((with_reducible show wpList _ _ _ _ _ wr); refine wpList_allocS rfl 50 rfl _ zeroRw ?_; intro g1 w1 hk1 hb1 hg1; go_frame; have K1 := Lib.hid hk1; have B1 := Lib.hid (below_chain HB.out hb1); have G1 := Lib.hid hg1; clear hk1 hb1 hg1)
          | ((with_reducible show wpList _ _ _ _ _ w1); refine wpList_storeS rfl 50 _ _ rfl g1 rfl (rwCells x A1 c1) rwZero rfl K1.out rfl (rwCells_one x A1 c1) (infoRw x A1 c1) ?_; intro w2 hk2 ht2; go_frame; have K2 := Lib.hid hk2; have B2 := Lib.hid (below_turn B1.out ht2 B1.out.size (Nat.le_trans HB.out.size G1.out)); clear hk2 ht2)
          | ((with_reducible show wpList _ _ _ _ _ w2); refine wpList_loadS rfl 50 _ rfl g1 rfl (rwCells x A1 c1) K2.out _ Try.underlying50 rfl (infoRw x A1 c1) ?_; go_frame))
        refine (HK.out w2).mono ?_
        rintro e w3 ⟨rfl, hb3⟩
        go_wp2_with fail
        go_ret
        exact ⟨by rw [T2.out (by first | trivial | rfl)]; first | done | rfl, below_chain B2.out hb3⟩
      · have f3 := leq_false hm
        clear hm
        by_cases h16 : x.1.length ≤ 16
        · have h16' : (x.1.length : Int) ≤ 16 := by omega
          have e16 : decide (x.1.length ≤ 16) = true := by simpa using h16
          rw [e16] at T1
          go_wp2_with (first
            | ((with_reducible show wpList _ _ _ _ _ wr); refine wpList_load_agg rfl 50 _ rfl b (off + k * 2) rfl (rwCells x A1 c1) HAT.out _ Try.underlying50 rfl (infoRw x A1 c1) ?_; go_frame)
            | ((with_reducible show wpList _ _ _ _ _ wr); refine wpList_allocS rfl 50 rfl _ zeroRw ?_; intro g1 w1 hk1 hb1 hg1; go_frame; have K1 := Lib.hid hk1; have B1 := Lib.hid (below_chain HB.out hb1); have G1 := Lib.hid hg1; clear hk1 hb1 hg1)
            | ((with_reducible show wpList _ _ _ _ _ w1); refine wpList_storeS rfl 50 _ _ rfl g1 rfl (rwCells x A1 c1) rwZero rfl K1.out rfl (rwCells_one x A1 c1) (infoRw x A1 c1) ?_; intro w2 hk2 ht2; go_frame; have K2 := Lib.hid hk2; have B2 := Lib.hid (below_turn B1.out ht2 B1.out.size (Nat.le_trans HB.out.size G1.out)); clear hk2 ht2)
            | ((with_reducible show wpList _ _ _ _ _ w2); refine wpList_loadS rfl 50 _ rfl g1 rfl (rwCells x A1 c1) K2.out _ Try.underlying50 rfl (infoRw x A1 c1) ?_; go_frame))
          refine (HK.out w2).mono ?_
          rintro e w3 ⟨rfl, hb3⟩
          go_wp2_with fail
          go_roundw
          case rel => exact ⟨k + 1, by go_num, by rw [T3.out], hk, by rw [T1.out, HI.out]; rfl, below_chain B2.out hb3⟩
          case measure => simp [RowKit.intOf]; omega
        · have h16' : ¬ (x.1.length : Int) ≤ 16 := by omega
          have e16 : decide (x.1.length ≤ 16) = false := by simpa using h16
          rw [e16] at T2
          go_wp2_with (first
            | ((with_reducible show wpList _ _ _ _ _ wr); refine wpList_load_agg rfl 50 _ rfl b (off + k * 2) rfl (rwCells x A1 c1) HAT.out _ Try.underlying50 rfl (infoRw x A1 c1) ?_; go_frame)
            | ((with_reducible show wpList _ _ _ _ _ wr); refine wpList_allocS rfl 50 rfl _ zeroRw ?_; intro g1 w1 hk1 hb1 hg1; go_frame; have K1 := Lib.hid hk1; have B1 := Lib.hid (below_chain HB.out hb1); have G1 := Lib.hid hg1; clear hk1 hb1 hg1)
            | ((with_reducible show wpList _ _ _ _ _ w1); refine wpList_storeS rfl 50 _ _ rfl g1 rfl (rwCells x A1 c1) rwZero rfl K1.out rfl (rwCells_one x A1 c1) (infoRw x A1 c1) ?_; intro w2 hk2 ht2; go_frame; have K2 := Lib.hid hk2; have B2 := Lib.hid (below_turn B1.out ht2 B1.out.size (Nat.le_trans HB.out.size G1.out)); clear hk2 ht2)
            | ((with_reducible show wpList _ _ _ _ _ w2); refine wpList_loadS rfl 50 _ rfl g1 rfl (rwCells x A1 c1) K2.out _ Try.underlying50 rfl (infoRw x A1 c1) ?_; go_frame))
          refine (HK.out w2).mono ?_
          rintro e w3 ⟨rfl, hb3⟩
          go_wp2_with fail
          go_ret
          exact ⟨by rw [T2.out (by first | trivial | rfl)]; first | done | rfl, below_chain B2.out hb3⟩
    · have hv := Lib.hid (show riseP [] (t.map (·.1)) = true by have := HI.out; rwa [List.take_of_length_le (by simp; omega)] at this)
      go_wp2_with fail
      go_ret
      exact ⟨by rw [hv.out]; first | done | rfl, HB.out⟩
set_option maxHeartbeats 2000000 in
theorem rise_chg (t : List Ch) (A : Option Addr) (c : Nat) (F : Nat → Prop) (w : World) (hs : SmallC t) (hr : RdX chgE w F A t) :
    Calls Try.prog 41 #[.slice A t.length c, .func (.func 42) #[] #[]] w fun e w' => e = .returned (.bool (riseP [] (t.map (·.1)))) ∧ Below w.heap.size w w' := by
  have hl := hs.1
  have hl' : (t.length : Int) ≤ 9223372036854775807 := by omega
  have HS := Lib.hid hs.2
  have HR := Lib.hid hr
  have hlb := less_bytes
  clear hs hr hl
  go_enter Try.func41, Try.ntmps41
  go_wp2_with fail
  go_loopw [5, 11] (fun a j wr => ∃ k : Nat, j = .int .i64 k ∧ a = .string ⟨(aheadK (t.map (·.1)) k).toArray⟩ ∧ k ≤ t.length ∧ riseP [] ((t.map (·.1)).take k) = true ∧ Below w.heap.size w wr) (fun _ j _ => t.length - (RowKit.intOf j).toNat)
  case atStart => exact ⟨0, rfl, rfl, Nat.zero_le _, rfl, Below.refl _ _⟩
  case round =>
    obtain ⟨k, rfl, rfl, hk0, hI, hB⟩ := hrel
    have HI := Lib.hid hI
    have HB := Lib.hid hB
    clear hI hB
    by_cases hk : k < t.length
    · obtain ⟨b, off, A1, c1, rfl, hat, hbv⟩ := chg_rd (HR.out.below HB.out) k hk
      have hsz := HS.out _ (List.getElem_mem hk)
      have hsz' : (t[k].1.length : Int) ≤ 9223372036854775807 := by omega
      have HAT := Lib.hid hat
      have hk' : (k : Int) < (t.length : Int) := by omega
      have hmk : k < (t.map (·.1)).length := map_take1 hk
      have T1 := Lib.hid (rise_take hmk)
      have T2 := Lib.hid (fun h => rise_no hmk h)
      have T3 := Lib.hid (aheadK_succ hmk)
      rw [List.getElem_map] at T1 T2 T3
      generalize aheadK (t.map (·.1)) k = last at *
      generalize t[k] = x at *
      clear hat hbv hsz
      have hkey := fun u => keyOfChange_any x A1 c1 u
      have HK := Lib.hid hkey
      clear hkey
      obtain ⟨m, hm⟩ : ∃ m, lessK last x.1 = m := ⟨_, rfl⟩
      rw [hm] at T1 T2
      cases m
      · have f3 := leq_true hm
        clear hm
        go_wp2_with (first
          | ((with_reducible show wpList _ _ _ _ _ wr); refine wpList_load_agg rfl 52 _ rfl b (off + k * 3) rfl (chCells x A1 c1) HAT.out _ Try.underlying52 rfl (infoCh x A1 c1) ?_; go_frame)
          | ((with_reducible show wpList _ _ _ _ _ wr); refine wpList_allocS rfl 52 rfl _ zeroCh ?_; intro g1 w1 hk1 hb1 hg1; go_frame; have K1 := Lib.hid hk1; have B1 := Lib.hid (below_chain HB.out hb1); have G1 := Lib.hid hg1; clear hk1 hb1 hg1)
          | ((with_reducible show wpList _ _ _ _ _ w1); refine wpList_storeS rfl 52 _ _ rfl g1 rfl (chCells x A1 c1) chZero rfl K1.out rfl (chCells_one x A1 c1) (infoCh x A1 c1) ?_; intro w2 hk2 ht2; go_frame; have K2 := Lib.hid hk2; have B2 := Lib.hid (below_turn B1.out ht2 B1.out.size (Nat.le_trans HB.out.size G1.out)); clear hk2 ht2)
          | ((with_reducible show wpList _ _ _ _ _ w2); refine wpList_loadS rfl 52 _ rfl g1 rfl (chCells x A1 c1) K2.out _ Try.underlying52 rfl (infoCh x A1 c1) ?_; go_frame))
        refine (HK.out w2).mono ?_
        rintro e w3 ⟨rfl, hb3⟩
        go_wp2_with fail
        go_ret
        exact ⟨by rw [T2.out (by first | trivial | rfl)]; first | done | rfl, below_chain B2.out hb3⟩
      · have f3 := leq_false hm
        clear hm
        by_cases h16 : x.1.length ≤ 16
        · have h16' : (x.1.length : Int) ≤ 16 := by omega
          have e16 : decide (x.1.length ≤ 16) = true := by simpa using h16
          rw [e16] at T1
          go_wp2_with (first
            | ((with_reducible show wpList _ _ _ _ _ wr); refine wpList_load_agg rfl 52 _ rfl b (off + k * 3) rfl (chCells x A1 c1) HAT.out _ Try.underlying52 rfl (infoCh x A1 c1) ?_; go_frame)
            | ((with_reducible show wpList _ _ _ _ _ wr); refine wpList_allocS rfl 52 rfl _ zeroCh ?_; intro g1 w1 hk1 hb1 hg1; go_frame; have K1 := Lib.hid hk1; have B1 := Lib.hid (below_chain HB.out hb1); have G1 := Lib.hid hg1; clear hk1 hb1 hg1)
            | ((with_reducible show wpList _ _ _ _ _ w1); refine wpList_storeS rfl 52 _ _ rfl g1 rfl (chCells x A1 c1) chZero rfl K1.out rfl (chCells_one x A1 c1) (infoCh x A1 c1) ?_; intro w2 hk2 ht2; go_frame; have K2 := Lib.hid hk2; have B2 := Lib.hid (below_turn B1.out ht2 B1.out.size (Nat.le_trans HB.out.size G1.out)); clear hk2 ht2)
            | ((with_reducible show wpList _ _ _ _ _ w2); refine wpList_loadS rfl 52 _ rfl g1 rfl (chCells x A1 c1) K2.out _ Try.underlying52 rfl (infoCh x A1 c1) ?_; go_frame))
          refine (HK.out w2).mono ?_
          rintro e w3 ⟨rfl, hb3⟩
          go_wp2_with fail
          go_roundw
          case rel => exact ⟨k + 1, by go_num, by rw [T3.out], hk, by rw [T1.out, HI.out]; rfl, below_chain B2.out hb3⟩
          case measure => simp [RowKit.intOf]; omega
        · have h16' : ¬ (x.1.length : Int) ≤ 16 := by omega
          have e16 : decide (x.1.length ≤ 16) = false := by simpa using h16
          rw [e16] at T2
          go_wp2_with (first
            | ((with_reducible show wpList _ _ _ _ _ wr); refine wpList_load_agg rfl 52 _ rfl b (off + k * 3) rfl (chCells x A1 c1) HAT.out _ Try.underlying52 rfl (infoCh x A1 c1) ?_; go_frame)
            | ((with_reducible show wpList _ _ _ _ _ wr); refine wpList_allocS rfl 52 rfl _ zeroCh ?_; intro g1 w1 hk1 hb1 hg1; go_frame; have K1 := Lib.hid hk1; have B1 := Lib.hid (below_chain HB.out hb1); have G1 := Lib.hid hg1; clear hk1 hb1 hg1)
            | ((with_reducible show wpList _ _ _ _ _ w1); refine wpList_storeS rfl 52 _ _ rfl g1 rfl (chCells x A1 c1) chZero rfl K1.out rfl (chCells_one x A1 c1) (infoCh x A1 c1) ?_; intro w2 hk2 ht2; go_frame; have K2 := Lib.hid hk2; have B2 := Lib.hid (below_turn B1.out ht2 B1.out.size (Nat.le_trans HB.out.size G1.out)); clear hk2 ht2)
            | ((with_reducible show wpList _ _ _ _ _ w2); refine wpList_loadS rfl 52 _ rfl g1 rfl (chCells x A1 c1) K2.out _ Try.underlying52 rfl (infoCh x A1 c1) ?_; go_frame))
          refine (HK.out w2).mono ?_
          rintro e w3 ⟨rfl, hb3⟩
          go_wp2_with fail
          go_ret
          exact ⟨by rw [T2.out (by first | trivial | rfl)]; first | done | rfl, below_chain B2.out hb3⟩
    · have hv := Lib.hid (show riseP [] (t.map (·.1)) = true by have := HI.out; rwa [List.take_of_length_le (by simp; omega)] at this)
      go_wp2_with fail
      go_ret
      exact ⟨by rw [hv.out]; first | done | rfl, HB.out⟩
set_option maxHeartbeats 2000000 in
theorem May_any (t : List Rw) (A : Option Addr) (c : Nat) (F : Nat → Prop) (w : World) (hs : SmallR t) (hr : RdX rowE w F A t) :
    Calls Try.prog 23 #[.slice A t.length c] w fun e w' => e = .returned (.bool (mayP t)) ∧ Below w.heap.size w w' := by
  have hl := hs.1
  have hl' : (t.length : Int) ≤ 9223372036854775807 := by omega
  have hend := fun u (hb : Below w.heap.size w u) => rise_row t A c F u hs (hr.below hb)
  have HE := Lib.hid hend
  have HR := Lib.hid hr
  clear hs hr hl hend
  go_enter Try.func23, Try.ntmps23
  go_wp2_with fail
  go_loopw [7] (fun j wr => ∃ k : Nat, j = .int .i64 k ∧ k ≤ t.length ∧ (t.take k).all (fun x => decide (x.2.length ≤ 8192)) = true ∧ Below w.heap.size w wr) (fun j _ => t.length - (RowKit.intOf j).toNat)
  case atStart => exact ⟨0, rfl, Nat.zero_le _, rfl, Below.refl _ _⟩
  case round =>
    obtain ⟨k, rfl, hk0, hI, hB⟩ := hrel
    have HI := Lib.hid hI
    have HB := Lib.hid hB
    clear hI hB
    by_cases hk : k < t.length
    · obtain ⟨b, off, A1, c1, rfl, hat, hbv⟩ := row_rd (HR.out.below HB.out) k hk
      have HAT := Lib.hid hat
      have hk' : (k : Int) < (t.length : Int) := by omega
      have T1 := Lib.hid (all_take (p := (fun x => decide (x.2.length ≤ 8192))) hk)
      have hnone := fun h => may_none hk h
      have T0 := Lib.hid hnone
      clear hnone
      generalize t[k] = x at *
      clear hat hbv
      by_cases h8 : x.2.length ≤ 8192
      · have h8' : (x.2.length : Int) ≤ 8192 := by omega
        have e8 : decide (x.2.length ≤ 8192) = true := by simpa using h8
        have T1 := Lib.hid (T1.out.trans (by rw [e8]))
        clear T0
        go_wp2_with (first
          | ((with_reducible show wpList _ _ _ _ _ wr); refine wpList_load_agg rfl 50 _ rfl b (off + k * 2) rfl (rwCells x A1 c1) HAT.out _ Try.underlying50 rfl (infoRw x A1 c1) ?_; go_frame)
          | ((with_reducible show wpList _ _ _ _ _ wr); refine wpList_allocS rfl 50 rfl _ zeroRw ?_; intro g1 w1 hk1 hb1 hg1; go_frame; have K1 := Lib.hid hk1; have B1 := Lib.hid (below_chain HB.out hb1); have G1 := Lib.hid hg1; clear hk1 hb1 hg1)
          | ((with_reducible show wpList _ _ _ _ _ w1); refine wpList_storeS rfl 50 _ _ rfl g1 rfl (rwCells x A1 c1) rwZero rfl K1.out rfl (rwCells_one x A1 c1) (infoRw x A1 c1) ?_; intro w2 hk2 ht2; go_frame; have K2 := Lib.hid hk2; have q1 := rw_c1 hk2; have B2 := Lib.hid (below_turn B1.out ht2 B1.out.size (Nat.le_trans HB.out.size G1.out)); clear hk2 ht2))
        go_roundw
        case rel => exact ⟨k + 1, by go_num, hk, by rw [T1.out, HI.out]; first | done | rfl, B2.out⟩
        case measure => simp [RowKit.intOf]; omega
      · have h8' : ¬ (x.2.length : Int) ≤ 8192 := by omega
        have T2 := Lib.hid (T0.out h8)
        clear T0
        go_wp2_with (first
          | ((with_reducible show wpList _ _ _ _ _ wr); refine wpList_load_agg rfl 50 _ rfl b (off + k * 2) rfl (rwCells x A1 c1) HAT.out _ Try.underlying50 rfl (infoRw x A1 c1) ?_; go_frame)
          | ((with_reducible show wpList _ _ _ _ _ wr); refine wpList_allocS rfl 50 rfl _ zeroRw ?_; intro g1 w1 hk1 hb1 hg1; go_frame; have K1 := Lib.hid hk1; have B1 := Lib.hid (below_chain HB.out hb1); have G1 := Lib.hid hg1; clear hk1 hb1 hg1)
          | ((with_reducible show wpList _ _ _ _ _ w1); refine wpList_storeS rfl 50 _ _ rfl g1 rfl (rwCells x A1 c1) rwZero rfl K1.out rfl (rwCells_one x A1 c1) (infoRw x A1 c1) ?_; intro w2 hk2 ht2; go_frame; have K2 := Lib.hid hk2; have q1 := rw_c1 hk2; have B2 := Lib.hid (below_turn B1.out ht2 B1.out.size (Nat.le_trans HB.out.size G1.out)); clear hk2 ht2))
        go_ret
        exact ⟨by rw [T2.out]; first | done | rfl, B2.out⟩
    · have hv := Lib.hid (may_all (show t.all (fun x => decide (x.2.length ≤ 8192)) = true by have := HI.out; rwa [List.take_of_length_le (by omega)] at this))
      go_wp2_with fail
      refine (HE.out wr HB.out).mono ?_
      rintro e w3 ⟨rfl, hb3⟩
      go_wp2_with fail
      go_ret
      exact ⟨by rw [hv.out]; first | done | rfl, below_chain HB.out hb3⟩
theorem chC1 {w : World} {g : Nat} {x : Ch} {A : Option Addr} {c : Nat} (h : Cs w g 52 (chCells x A c).toArray) : w.cell? ⟨g, 1, none⟩ = some (.slice A x.2.1.length c) := h.cell 1 rfl
theorem chC2 {w : World} {g : Nat} {x : Ch} {A : Option Addr} {c : Nat} (h : Cs w g 52 (chCells x A c).toArray) : w.cell? ⟨g, 2, none⟩ = some (.bool x.2.2) := h.cell 2 rfl
set_option maxHeartbeats 2000000 in
theorem MayC_any (t : List Ch) (A : Option Addr) (c : Nat) (F : Nat → Prop) (w : World) (hs : SmallC t) (hr : RdX chgE w F A t) :
    Calls Try.prog 14 #[.slice A t.length c] w fun e w' => e = .returned (.bool (mayCP t)) ∧ Below w.heap.size w w' := by
  have hl := hs.1
  have hl' : (t.length : Int) ≤ 9223372036854775807 := by omega
  have hend := fun u (hb : Below w.heap.size w u) => rise_chg t A c F u hs (hr.below hb)
  have HE := Lib.hid hend
  have HR := Lib.hid hr
  clear hs hr hl hend
  go_enter Try.func14, Try.ntmps14
  go_wp2_with fail
  go_loopw [7] (fun j wr => ∃ k : Nat, j = .int .i64 k ∧ k ≤ t.length ∧ (t.take k).all okV = true ∧ Below w.heap.size w wr) (fun j _ => t.length - (RowKit.intOf j).toNat)
  case atStart => exact ⟨0, rfl, Nat.zero_le _, rfl, Below.refl _ _⟩
  case round =>
    obtain ⟨k, rfl, hk0, hI, hB⟩ := hrel
    have HI := Lib.hid hI
    have HB := Lib.hid hB
    clear hI hB
    by_cases hk : k < t.length
    · obtain ⟨b, off, A1, c1, rfl, hat, hbv⟩ := chg_rd (HR.out.below HB.out) k hk
      have HAT := Lib.hid hat
      have hk' : (k : Int) < (t.length : Int) := by omega
      have T1 := Lib.hid (all_take (p := okV) hk)
      have hnone := fun h => mayC_none hk h
      have T0 := Lib.hid hnone
      clear hnone
      generalize t[k] = x at *
      clear hat hbv
      obtain ⟨x1, x2, z⟩ := x
      try dsimp only at *
      by_cases h8 : x2.length ≤ 8192
      · have h8' : (x2.length : Int) ≤ 8192 := by omega
        have e8 : decide (x2.length ≤ 8192) = true := by simpa using h8
        cases z
        · have T1 := Lib.hid (T1.out.trans (by rw [show okV (x1, x2, false) = true by simp [okV, e8, h8]]))
          clear T0
          go_wp2_with (first
            | ((with_reducible show wpList _ _ _ _ _ wr); refine wpList_load_agg rfl 52 _ rfl b (off + k * 3) rfl (chCells (x1, x2, false) A1 c1) HAT.out _ Try.underlying52 rfl (infoCh (x1, x2, false) A1 c1) ?_; go_frame)
            | ((with_reducible show wpList _ _ _ _ _ wr); refine wpList_allocS rfl 52 rfl _ zeroCh ?_; intro g1 w1 hk1 hb1 hg1; go_frame; have K1 := Lib.hid hk1; have B1 := Lib.hid (below_chain HB.out hb1); have G1 := Lib.hid hg1; clear hk1 hb1 hg1)
            | ((with_reducible show wpList _ _ _ _ _ w1); refine wpList_storeS rfl 52 _ _ rfl g1 rfl (chCells (x1, x2, false) A1 c1) chZero rfl K1.out rfl (chCells_one (x1, x2, false) A1 c1) (infoCh (x1, x2, false) A1 c1) ?_; intro w2 hk2 ht2; go_frame; have K2 := Lib.hid hk2; have q1 := chC1 hk2; have q2 := chC2 hk2; have B2 := Lib.hid (below_turn B1.out ht2 B1.out.size (Nat.le_trans HB.out.size G1.out)); clear hk2 ht2))
          go_roundw
          case rel => exact ⟨k + 1, by go_num, hk, by rw [T1.out, HI.out]; first | done | rfl, B2.out⟩
          case measure => simp [RowKit.intOf]; omega
        · by_cases h0 : 0 < x2.length
          · have h0' : (0 : Int) < (x2.length : Int) := by omega
            have T2 := Lib.hid (T0.out (by simp [okV, h0]))
            clear T0
            go_wp2_with (first
              | ((with_reducible show wpList _ _ _ _ _ wr); refine wpList_load_agg rfl 52 _ rfl b (off + k * 3) rfl (chCells (x1, x2, true) A1 c1) HAT.out _ Try.underlying52 rfl (infoCh (x1, x2, true) A1 c1) ?_; go_frame)
              | ((with_reducible show wpList _ _ _ _ _ wr); refine wpList_allocS rfl 52 rfl _ zeroCh ?_; intro g1 w1 hk1 hb1 hg1; go_frame; have K1 := Lib.hid hk1; have B1 := Lib.hid (below_chain HB.out hb1); have G1 := Lib.hid hg1; clear hk1 hb1 hg1)
              | ((with_reducible show wpList _ _ _ _ _ w1); refine wpList_storeS rfl 52 _ _ rfl g1 rfl (chCells (x1, x2, true) A1 c1) chZero rfl K1.out rfl (chCells_one (x1, x2, true) A1 c1) (infoCh (x1, x2, true) A1 c1) ?_; intro w2 hk2 ht2; go_frame; have K2 := Lib.hid hk2; have q1 := chC1 hk2; have q2 := chC2 hk2; have B2 := Lib.hid (below_turn B1.out ht2 B1.out.size (Nat.le_trans HB.out.size G1.out)); clear hk2 ht2))
            go_ret
            exact ⟨by rw [T2.out]; first | done | rfl, B2.out⟩
          · have h0' : ¬ (0 : Int) < (x2.length : Int) := by omega
            have T1 := Lib.hid (T1.out.trans (by rw [show okV (x1, x2, true) = true by simp [okV, h8, h0]]))
            clear T0
            go_wp2_with (first
              | ((with_reducible show wpList _ _ _ _ _ wr); refine wpList_load_agg rfl 52 _ rfl b (off + k * 3) rfl (chCells (x1, x2, true) A1 c1) HAT.out _ Try.underlying52 rfl (infoCh (x1, x2, true) A1 c1) ?_; go_frame)
              | ((with_reducible show wpList _ _ _ _ _ wr); refine wpList_allocS rfl 52 rfl _ zeroCh ?_; intro g1 w1 hk1 hb1 hg1; go_frame; have K1 := Lib.hid hk1; have B1 := Lib.hid (below_chain HB.out hb1); have G1 := Lib.hid hg1; clear hk1 hb1 hg1)
              | ((with_reducible show wpList _ _ _ _ _ w1); refine wpList_storeS rfl 52 _ _ rfl g1 rfl (chCells (x1, x2, true) A1 c1) chZero rfl K1.out rfl (chCells_one (x1, x2, true) A1 c1) (infoCh (x1, x2, true) A1 c1) ?_; intro w2 hk2 ht2; go_frame; have K2 := Lib.hid hk2; have q1 := chC1 hk2; have q2 := chC2 hk2; have B2 := Lib.hid (below_turn B1.out ht2 B1.out.size (Nat.le_trans HB.out.size G1.out)); clear hk2 ht2))
            go_roundw
            case rel => exact ⟨k + 1, by go_num, hk, by rw [T1.out, HI.out]; first | done | rfl, B2.out⟩
            case measure => simp [RowKit.intOf]; omega
      · have h8' : ¬ (x2.length : Int) ≤ 8192 := by omega
        have T2 := Lib.hid (T0.out (by simp [okV, h8]))
        clear T0
        go_wp2_with (first
          | ((with_reducible show wpList _ _ _ _ _ wr); refine wpList_load_agg rfl 52 _ rfl b (off + k * 3) rfl (chCells (x1, x2, z) A1 c1) HAT.out _ Try.underlying52 rfl (infoCh (x1, x2, z) A1 c1) ?_; go_frame)
          | ((with_reducible show wpList _ _ _ _ _ wr); refine wpList_allocS rfl 52 rfl _ zeroCh ?_; intro g1 w1 hk1 hb1 hg1; go_frame; have K1 := Lib.hid hk1; have B1 := Lib.hid (below_chain HB.out hb1); have G1 := Lib.hid hg1; clear hk1 hb1 hg1)
          | ((with_reducible show wpList _ _ _ _ _ w1); refine wpList_storeS rfl 52 _ _ rfl g1 rfl (chCells (x1, x2, z) A1 c1) chZero rfl K1.out rfl (chCells_one (x1, x2, z) A1 c1) (infoCh (x1, x2, z) A1 c1) ?_; intro w2 hk2 ht2; go_frame; have K2 := Lib.hid hk2; have q1 := chC1 hk2; have q2 := chC2 hk2; have B2 := Lib.hid (below_turn B1.out ht2 B1.out.size (Nat.le_trans HB.out.size G1.out)); clear hk2 ht2))
        go_ret
        exact ⟨by rw [T2.out]; first | done | rfl, B2.out⟩
    · have hv := Lib.hid (mayC_all (show t.all okV = true by have := HI.out; rwa [List.take_of_length_le (by omega)] at this))
      go_wp2_with fail
      refine (HE.out wr HB.out).mono ?_
      rintro e w3 ⟨rfl, hb3⟩
      go_wp2_with fail
      go_ret
      exact ⟨by rw [hv.out]; first | done | rfl, below_chain HB.out hb3⟩
set_option maxHeartbeats 2000000 in
theorem Shared_any (a b : Key) (w : World) (ha : a.length ≤ 9223372036854775807) (hb : b.length ≤ 9223372036854775807) :
    Calls Try.prog 18 #[.string ⟨a.toArray⟩, .string ⟨b.toArray⟩] w fun e w' => e = .returned (.int .i64 (sharedP a b : Int)) ∧ Below w.heap.size w w' := by
  have ha' : (a.length : Int) ≤ 9223372036854775807 := by omega
  have hb' : (b.length : Int) ≤ 9223372036854775807 := by omega
  have hmin : min (a.length : Int) (b.length : Int) = ((min a.length b.length : Nat) : Int) := by omega
  go_enter Try.func18, Try.ntmps18
  go_wp2_with fail
  generalize hm : min a.length b.length = m at *
  go_loopw [6, 13] (fun _ j wr => ∃ n : Nat, j = .int .i64 n ∧ n ≤ m ∧ a.take n = b.take n ∧ Below w.heap.size w wr) (fun _ j _ => m - (RowKit.intOf j).toNat)
  case atStart => exact ⟨0, rfl, Nat.zero_le _, by simp, Below.refl _ _⟩
  case round =>
    obtain ⟨n, rfl, h1, ht, hB⟩ := hrel
    have HT := Lib.hid ht
    have HB := Lib.hid hB
    clear ht hB
    by_cases hl : n < m
    · have hl' : (n : Int) < (m : Int) := by omega
      have l1 : n < a.length := by omega
      have l2 : n < b.length := by omega
      have l1' : (n : Int) < (a.length : Int) := by omega
      have l2' : (n : Int) < (b.length : Int) := by omega
      have HM := Lib.hid hm
      by_cases he : a[n] = b[n]
      · have e1 : ((((⟨a.toArray⟩ : ByteArray)[n]'(sv_lt l1)).toNat : Int) == (((⟨b.toArray⟩ : ByteArray)[n]'(sv_lt l2)).toNat : Int)) = true := by rw [sv_get l1, sv_get l2, he]; simp
        have HN := Lib.hid (take_next HT.out l1 l2 he)
        clear he hm
        go_wp2_with fail
        go_quiet (fail)
        go_wp2_with fail
        go_roundw
        case rel => exact ⟨n + 1, by go_num, hl, HN.out, below_drewN HB.out _⟩
        case measure => simp [RowKit.intOf]; omega
      · have e1 : ((((⟨a.toArray⟩ : ByteArray)[n]'(sv_lt l1)).toNat : Int) == (((⟨b.toArray⟩ : ByteArray)[n]'(sv_lt l2)).toNat : Int)) = false := by
          rw [sv_get l1, sv_get l2]
          rw [beq_eq_false_iff_ne]
          intro h
          exact he (UInt8.toNat_inj.1 (by omega))
        have HS := Lib.hid (shared_stop a b n HT.out (by omega) (by omega) (.inr (.inr (by rw [List.getElem?_eq_getElem l1, List.getElem?_eq_getElem l2]; intro h; exact he (Option.some.inj h)))))
        clear he hm
        go_wp2_with fail
        go_quiet (fail)
        go_wp2_with fail
        go_ret
        exact ⟨by rw [HS.out]; first | done | rfl, below_drewN HB.out _⟩
    · have hl' : ¬ (n : Int) < (m : Int) := by omega
      have en : n = m := by omega
      have HS := Lib.hid (shared_stop a b n HT.out (by omega) (by omega) (by omega))
      have HE := Lib.hid en
      clear hm en
      go_wp2_with fail
      go_ret
      exact ⟨by rw [HS.out, HE.out]; first | done | rfl, HB.out⟩

end Go.Proofs.Ytiemphfikfigdaa
