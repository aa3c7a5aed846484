/- SWEPT -/
import Derived.Lib.AppendStr
import Derived.Test.YtfgbpinfplllgaaGreatDoorZBatRK
import Derived.Test.YtfgbpinfplllgaaGreatDoorZBchAK
set_option linter.unusedVariables false
set_option linter.unusedSimpArgs false
open Go.Lib (hid)
namespace Go.Proofs.YtfgbpinfplllgaaGreatDoor
open Go.RowKit Go.Shelf
set_option maxRecDepth 100000
def riseP : Key → List Key → Bool
  | _, [] => true
  | last, k :: r => lessK last k && decide (k.length ≤ 16) && riseP k r
def endK : Key → List Key → Key
  | last, [] => last
  | _, x :: r => endK x r
theorem endK_snoc : ∀ (t : List Key) (last x : Key), endK last (t ++ [x]) = x
  | [], _, _ => rfl
  | y :: t, last, x => endK_snoc t y x
theorem rise_snoc : ∀ (t : List Key) (last x : Key), riseP last (t ++ [x]) = (riseP last t && (lessK (endK last t) x && decide (x.length ≤ 16)))
  | [], last, x => by simp [riseP, endK]
  | y :: t, last, x => by simp only [List.cons_append, riseP, rise_snoc t y x, Bool.and_assoc, endK]
def aheadK (t : List Key) (k : Nat) : Key := endK [] (t.take k)
theorem aheadK_succ {t : List Key} {k : Nat} (h : k < t.length) : aheadK t (k + 1) = t[k] := by
  unfold aheadK
  rw [List.take_succ_eq_append_getElem h, endK_snoc]
theorem rise_take {t : List Key} {k : Nat} (h : k < t.length) : riseP [] (t.take (k + 1)) = (riseP [] (t.take k) && (lessK (aheadK t k) t[k] && decide (t[k].length ≤ 16))) := by
  rw [List.take_succ_eq_append_getElem h, rise_snoc]
  rfl
theorem rise_less : ∀ (t : List Key) (last : Key) (k : Nat), riseP last t = true → riseP last (t.take k) = true
  | [], last, k, h => by simpa using h
  | x :: t, last, 0, h => rfl
  | x :: t, last, k + 1, h => by
    simp only [riseP, Bool.and_eq_true, List.take_succ_cons] at h ⊢
    exact ⟨h.1, rise_less t x k h.2⟩
theorem rise_no {t : List Key} {k : Nat} (h : k < t.length) (hf : (lessK (aheadK t k) t[k] && decide (t[k].length ≤ 16)) = false) : riseP [] t = false := by
  cases hm : riseP [] t
  · rfl
  · have := rise_less t [] (k + 1) hm
    rw [rise_take h, hf, Bool.and_false] at this
    cases this
theorem lessK_nonempty {a b : Key} (h : lessK a b = true) : b ≠ [] := by
  rintro rfl
  have : lessK a [] = false := by
    cases a with
    | nil => exact lessK_irrefl _
    | cons x a => exact lessK_asymm (by rw [lessK_nil]; simp)
  rw [this] at h
  cases h
theorem fits_rise (last k v : List UInt8) : fitsK last k v = (decide (v.length ≤ 8192) && (lessK last k && decide (k.length ≤ 16))) := by
  unfold fitsK
  cases h : lessK last k
  · simp
  · have := lessK_nonempty h
    have e : (k == []) = false := by simpa using this
    rw [e]
    simp [Bool.and_comm]
def okV (x : Ch) : Bool := !(!decide (x.2.1.length ≤ 8192) || (x.2.2 && decide (0 < x.2.1.length)))
theorem okC_rise (last : Key) (x : Ch) : okC last x = (okV x && (lessK last x.1 && decide (x.1.length ≤ 16))) := by
  unfold okC okV
  rw [fits_rise]
  obtain ⟨k, v, z⟩ := x
  cases v <;> cases z <;> simp [Bool.and_comm, Bool.and_left_comm]
theorem mayFrom_rise : ∀ (t : List Rw) (last : Key), mayFrom last t = ((t.all fun x => decide (x.2.length ≤ 8192)) && riseP last (t.map (·.1)))
  | [], _ => rfl
  | x :: t, last => by
    simp only [mayFrom, fits_rise, mayFrom_rise t x.1, List.all_cons, List.map_cons, riseP]
    cases decide (x.2.length ≤ 8192) <;> cases lessK last x.1 <;> cases decide (x.1.length ≤ 16) <;> simp
theorem mayCFrom_rise : ∀ (t : List Ch) (last : Key), mayCFrom last t = (t.all okV && riseP last (t.map (·.1)))
  | [], _ => rfl
  | x :: t, last => by
    simp only [mayCFrom, okC_rise, mayCFrom_rise t x.1, List.all_cons, List.map_cons, riseP]
    cases okV x <;> cases lessK last x.1 <;> cases decide (x.1.length ≤ 16) <;> simp
theorem may_all {t : List Rw} (h : (t.all fun x => decide (x.2.length ≤ 8192)) = true) : mayP t = riseP [] (t.map (·.1)) := by
  unfold mayP
  rw [mayFrom_rise, h, Bool.true_and]
theorem mayC_all {t : List Ch} (h : t.all okV = true) : mayCP t = riseP [] (t.map (·.1)) := by
  unfold mayCP
  rw [mayCFrom_rise, h, Bool.true_and]
theorem may_none {t : List Rw} {k : Nat} (h : k < t.length) (hf : ¬ t[k].2.length ≤ 8192) : mayP t = false := by
  unfold mayP
  rw [mayFrom_rise]
  have : (t.all fun x => decide (x.2.length ≤ 8192)) = false := by
    rw [List.all_eq_false]
    exact ⟨_, List.getElem_mem h, by simpa using hf⟩
  rw [this]
  rfl
theorem mayC_none {t : List Ch} {k : Nat} (h : k < t.length) (hf : okV t[k] = false) : mayCP t = false := by
  unfold mayCP
  rw [mayCFrom_rise]
  have : t.all okV = false := by
    rw [List.all_eq_false]
    exact ⟨_, List.getElem_mem h, by simp [hf]⟩
  rw [this]
  rfl
theorem all_take {α : Type} {p : α → Bool} {t : List α} {k : Nat} (h : k < t.length) : (t.take (k + 1)).all p = ((t.take k).all p && p t[k]) := by
  rw [List.take_succ_eq_append_getElem h, List.all_append]
  simp
theorem map_take1 {α β : Type} {f : α → β} {t : List α} {k : Nat} (h : k < t.length) : k < (t.map f).length := by simpa using h
theorem chCells_one (x : Ch) (A : Option Addr) (c : Nat) : ∀ v ∈ chCells x A c, v.oneCell' = true := one3c rfl rfl rfl
theorem rw_c1 {w : World} {g : Nat} {x : Rw} {A : Option Addr} {c : Nat} (h : Cs w g 78 (rwCells x A c).toArray) : w.cell? ⟨g, 1, none⟩ = some (.slice A x.2.length c) := h.cell 1 rfl
theorem keyOfRow_any (x : Rw) (A : Option Addr) (c : Nat) (w : World) :
    Calls Tryz.prog 123 #[.agg (rwCells x A c).toArray] w fun e w' => e = .returned (.string ⟨x.1.toArray⟩) ∧ Below w.heap.size w w' := by
  go_enter Tryz.func123, Tryz.ntmps123
  go_wp2_with (first
    | ((with_reducible show wpList _ _ _ _ _ w); refine wpList_boxS rfl 78 _ rfl (rwCells x A c) rfl ?_; intro g1 w1 hk hb hg; go_frame; have q0 := rw_c0 hk; have B1 := hid hb; clear hk hb hg))
  go_ret
  exact ⟨rfl, B1.out⟩
theorem keyOfChange_any (x : Ch) (A : Option Addr) (c : Nat) (w : World) :
    Calls Tryz.prog 93 #[.agg (chCells x A c).toArray] w fun e w' => e = .returned (.string ⟨x.1.toArray⟩) ∧ Below w.heap.size w w' := by
  go_enter Tryz.func93, Tryz.ntmps93
  go_wp2_with (first
    | ((with_reducible show wpList _ _ _ _ _ w); refine wpList_boxS rfl 73 _ rfl (chCells x A c) rfl ?_; intro g1 w1 hk hb hg; go_frame; have q0 := ch_c0 hk; have B1 := hid hb; clear hk hb hg))
  go_ret
  exact ⟨rfl, B1.out⟩
end Go.Proofs.YtfgbpinfplllgaaGreatDoor
namespace Go.Proofs.YtfgbpinfplllgaaGreatDoor
open Go.RowKit Go.Shelf
set_option maxRecDepth 100000
theorem leq_true {a b : Key} (h : lessK a b = false) : (lessK b a || b == a) = true := by
  cases h2 : lessK b a
  · rw [lessK_total h h2]; simp
  · simp
theorem leq_false {a b : Key} (h : lessK a b = true) : (lessK b a || b == a) = false := by
  rw [lessK_asymm h]
  simpa using (lessK_ne h).symm
set_option maxHeartbeats 2000000 in
theorem rise_row (t : List Rw) (A : Option Addr) (c : Nat) (F : Nat → Prop) (w : World) (hs : SmallR t) (hr : RdX rowE w F A t) :
    Calls Tryz.prog 152 #[.slice A t.length c, .func (.func 123) #[] #[]] w fun e w' => e = .returned (.bool (riseP [] (t.map (·.1)))) ∧ Below w.heap.size w w' := by
  have hl := hs.1
  have hl' : (t.length : Int) ≤ 9223372036854775807 := by omega
  have HS := hid hs.2
  have HR := hid hr
  have hlb := less_bytes
  clear hs hr hl
  go_enter Tryz.func152, Tryz.ntmps152
  go_wp2_with fail
  go_loopw [5, 11] (fun a j wr => ∃ k : Nat, j = .int .i64 k ∧ a = .string ⟨(aheadK (t.map (·.1)) k).toArray⟩ ∧ k ≤ t.length ∧ riseP [] ((t.map (·.1)).take k) = true ∧ Below w.heap.size w wr) (fun _ j _ => t.length - (RowKit.intOf j).toNat)
  case atStart => exact ⟨0, rfl, rfl, Nat.zero_le _, rfl, Below.refl _ _⟩
  case round =>
    obtain ⟨k, rfl, rfl, hk0, hI, hB⟩ := hrel
    have HI := hid hI
    have HB := hid hB
    clear hI hB
    by_cases hk : k < t.length
    · obtain ⟨b, off, A1, c1, rfl, hat, hbv⟩ := row_rd (HR.out.below HB.out) k hk
      have hsz := HS.out _ (List.getElem_mem hk)
      have hsz' : (t[k].1.length : Int) ≤ 9223372036854775807 := by omega
      have HAT := hid hat
      have hk' : (k : Int) < (t.length : Int) := by omega
      have hmk : k < (t.map (·.1)).length := map_take1 hk
      have T1 := hid (rise_take hmk)
      have T2 := hid (fun h => rise_no hmk h)
      have T3 := hid (aheadK_succ hmk)
      rw [List.getElem_map] at T1 T2 T3
      generalize aheadK (t.map (·.1)) k = last at *
      generalize t[k] = x at *
      clear hat hbv hsz
      have hkey := fun u => keyOfRow_any x A1 c1 u
      have HK := hid hkey
      clear hkey
      obtain ⟨m, hm⟩ : ∃ m, lessK last x.1 = m := ⟨_, rfl⟩
      rw [hm] at T1 T2
      cases m
      · have f3 := leq_true hm
        clear hm
        go_wp2_with (first
          | ((with_reducible show wpList _ _ _ _ _ wr); refine wpList_load_agg rfl 78 _ rfl b (off + k * 2) rfl (rwCells x A1 c1) HAT.out _ Tryz.underlying78 rfl (infoRw x A1 c1) ?_; go_frame)
          | ((with_reducible show wpList _ _ _ _ _ wr); refine wpList_allocS rfl 78 rfl _ zeroRw ?_; intro g1 w1 hk1 hb1 hg1; go_frame; have K1 := hid hk1; have B1 := hid (below_chain HB.out hb1); have G1 := hid hg1; clear hk1 hb1 hg1)
          | ((with_reducible show wpList _ _ _ _ _ w1); refine wpList_storeS rfl 78 _ _ rfl g1 rfl (rwCells x A1 c1) rwZero rfl K1.out rfl (rwCells_one x A1 c1) (infoRw x A1 c1) ?_; intro w2 hk2 ht2; go_frame; have K2 := hid hk2; have B2 := hid (below_turn B1.out ht2 B1.out.size (Nat.le_trans HB.out.size G1.out)); clear hk2 ht2)
          | ((with_reducible show wpList _ _ _ _ _ w2); refine wpList_loadS rfl 78 _ rfl g1 rfl (rwCells x A1 c1) K2.out _ Tryz.underlying78 rfl (infoRw x A1 c1) ?_; go_frame))
        refine (HK.out w2).mono ?_
        rintro e w3 ⟨rfl, hb3⟩
        go_wp2_with fail
        go_ret
        exact ⟨by rw [T2.out (by first | trivial | rfl)]; first | done | rfl, below_chain B2.out hb3⟩
      · have f3 := leq_false hm
        clear hm
        by_cases h16 : x.1.length ≤ 16
        · have h16' : (x.1.length : Int) ≤ 16 := by omega
          have e16 : decide (x.1.length ≤ 16) = true := by simpa using h16
          rw [e16] at T1
          go_wp2_with (first
            | ((with_reducible show wpList _ _ _ _ _ wr); refine wpList_load_agg rfl 78 _ rfl b (off + k * 2) rfl (rwCells x A1 c1) HAT.out _ Tryz.underlying78 rfl (infoRw x A1 c1) ?_; go_frame)
            | ((with_reducible show wpList _ _ _ _ _ wr); refine wpList_allocS rfl 78 rfl _ zeroRw ?_; intro g1 w1 hk1 hb1 hg1; go_frame; have K1 := hid hk1; have B1 := hid (below_chain HB.out hb1); have G1 := hid hg1; clear hk1 hb1 hg1)
            | ((with_reducible show wpList _ _ _ _ _ w1); refine wpList_storeS rfl 78 _ _ rfl g1 rfl (rwCells x A1 c1) rwZero rfl K1.out rfl (rwCells_one x A1 c1) (infoRw x A1 c1) ?_; intro w2 hk2 ht2; go_frame; have K2 := hid hk2; have B2 := hid (below_turn B1.out ht2 B1.out.size (Nat.le_trans HB.out.size G1.out)); clear hk2 ht2)
            | ((with_reducible show wpList _ _ _ _ _ w2); refine wpList_loadS rfl 78 _ rfl g1 rfl (rwCells x A1 c1) K2.out _ Tryz.underlying78 rfl (infoRw x A1 c1) ?_; go_frame))
          refine (HK.out w2).mono ?_
          rintro e w3 ⟨rfl, hb3⟩
          go_wp2_with fail
          go_roundw
          case rel => exact ⟨k + 1, by go_num, by rw [T3.out], hk, by rw [T1.out, HI.out]; rfl, below_chain B2.out hb3⟩
          case measure => simp [RowKit.intOf]; omega
        · have h16' : ¬ (x.1.length : Int) ≤ 16 := by omega
          have e16 : decide (x.1.length ≤ 16) = false := by simpa using h16
          rw [e16] at T2
          go_wp2_with (first
            | ((with_reducible show wpList _ _ _ _ _ wr); refine wpList_load_agg rfl 78 _ rfl b (off + k * 2) rfl (rwCells x A1 c1) HAT.out _ Tryz.underlying78 rfl (infoRw x A1 c1) ?_; go_frame)
            | ((with_reducible show wpList _ _ _ _ _ wr); refine wpList_allocS rfl 78 rfl _ zeroRw ?_; intro g1 w1 hk1 hb1 hg1; go_frame; have K1 := hid hk1; have B1 := hid (below_chain HB.out hb1); have G1 := hid hg1; clear hk1 hb1 hg1)
            | ((with_reducible show wpList _ _ _ _ _ w1); refine wpList_storeS rfl 78 _ _ rfl g1 rfl (rwCells x A1 c1) rwZero rfl K1.out rfl (rwCells_one x A1 c1) (infoRw x A1 c1) ?_; intro w2 hk2 ht2; go_frame; have K2 := hid hk2; have B2 := hid (below_turn B1.out ht2 B1.out.size (Nat.le_trans HB.out.size G1.out)); clear hk2 ht2)
            | ((with_reducible show wpList _ _ _ _ _ w2); refine wpList_loadS rfl 78 _ rfl g1 rfl (rwCells x A1 c1) K2.out _ Tryz.underlying78 rfl (infoRw x A1 c1) ?_; go_frame))
          refine (HK.out w2).mono ?_
          rintro e w3 ⟨rfl, hb3⟩
          go_wp2_with fail
          go_ret
          exact ⟨by rw [T2.out (by first | trivial | rfl)]; first | done | rfl, below_chain B2.out hb3⟩
    · have hv := hid (show riseP [] (t.map (·.1)) = true by have := HI.out; rwa [List.take_of_length_le (by simp; omega)] at this)
      go_wp2_with fail
      go_ret
      exact ⟨by rw [hv.out]; first | done | rfl, HB.out⟩
set_option maxHeartbeats 2000000 in
theorem rise_chg (t : List Ch) (A : Option Addr) (c : Nat) (F : Nat → Prop) (w : World) (hs : SmallC t) (hr : RdX chgE w F A t) :
    Calls Tryz.prog 92 #[.slice A t.length c, .func (.func 93) #[] #[]] w fun e w' => e = .returned (.bool (riseP [] (t.map (·.1)))) ∧ Below w.heap.size w w' := by
  have hl := hs.1
  have hl' : (t.length : Int) ≤ 9223372036854775807 := by omega
  have HS := hid hs.2
  have HR := hid hr
  have hlb := less_bytes
  clear hs hr hl
  go_enter Tryz.func92, Tryz.ntmps92
  go_wp2_with fail
  go_loopw [5, 11] (fun a j wr => ∃ k : Nat, j = .int .i64 k ∧ a = .string ⟨(aheadK (t.map (·.1)) k).toArray⟩ ∧ k ≤ t.length ∧ riseP [] ((t.map (·.1)).take k) = true ∧ Below w.heap.size w wr) (fun _ j _ => t.length - (RowKit.intOf j).toNat)
  case atStart => exact ⟨0, rfl, rfl, Nat.zero_le _, rfl, Below.refl _ _⟩
  case round =>
    obtain ⟨k, rfl, rfl, hk0, hI, hB⟩ := hrel
    have HI := hid hI
    have HB := hid hB
    clear hI hB
    by_cases hk : k < t.length
    · obtain ⟨b, off, A1, c1, rfl, hat, hbv⟩ := chg_rd (HR.out.below HB.out) k hk
      have hsz := HS.out _ (List.getElem_mem hk)
      have hsz' : (t[k].1.length : Int) ≤ 9223372036854775807 := by omega
      have HAT := hid hat
      have hk' : (k : Int) < (t.length : Int) := by omega
      have hmk : k < (t.map (·.1)).length := map_take1 hk
      have T1 := hid (rise_take hmk)
      have T2 := hid (fun h => rise_no hmk h)
      have T3 := hid (aheadK_succ hmk)
      rw [List.getElem_map] at T1 T2 T3
      generalize aheadK (t.map (·.1)) k = last at *
      generalize t[k] = x at *
      clear hat hbv hsz
      have hkey := fun u => keyOfChange_any x A1 c1 u
      have HK := hid hkey
      clear hkey
      obtain ⟨m, hm⟩ : ∃ m, lessK last x.1 = m := ⟨_, rfl⟩
      rw [hm] at T1 T2
      cases m
      · have f3 := leq_true hm
        clear hm
        go_wp2_with (first
          | ((with_reducible show wpList _ _ _ _ _ wr); refine wpList_load_agg rfl 73 _ rfl b (off + k * 3) rfl (chCells x A1 c1) HAT.out _ Tryz.underlying73 rfl (infoCh x A1 c1) ?_; go_frame)
          | ((with_reducible show wpList _ _ _ _ _ wr); refine wpList_allocS rfl 73 rfl _ zeroCh ?_; intro g1 w1 hk1 hb1 hg1; go_frame; have K1 := hid hk1; have B1 := hid (below_chain HB.out hb1); have G1 := hid hg1; clear hk1 hb1 hg1)
          | ((with_reducible show wpList _ _ _ _ _ w1); refine wpList_storeS rfl 73 _ _ rfl g1 rfl (chCells x A1 c1) chZero rfl K1.out rfl (chCells_one x A1 c1) (infoCh x A1 c1) ?_; intro w2 hk2 ht2; go_frame; have K2 := hid hk2; have B2 := hid (below_turn B1.out ht2 B1.out.size (Nat.le_trans HB.out.size G1.out)); clear hk2 ht2)
          | ((with_reducible show wpList _ _ _ _ _ w2); refine wpList_loadS rfl 73 _ rfl g1 rfl (chCells x A1 c1) K2.out _ Tryz.underlying73 rfl (infoCh x A1 c1) ?_; go_frame))
        refine (HK.out w2).mono ?_
        rintro e w3 ⟨rfl, hb3⟩
        go_wp2_with fail
        go_ret
        exact ⟨by rw [T2.out (by first | trivial | rfl)]; first | done | rfl, below_chain B2.out hb3⟩
      · have f3 := leq_false hm
        clear hm
        by_cases h16 : x.1.length ≤ 16
        · have h16' : (x.1.length : Int) ≤ 16 := by omega
          have e16 : decide (x.1.length ≤ 16) = true := by simpa using h16
          rw [e16] at T1
          go_wp2_with (first
            | ((with_reducible show wpList _ _ _ _ _ wr); refine wpList_load_agg rfl 73 _ rfl b (off + k * 3) rfl (chCells x A1 c1) HAT.out _ Tryz.underlying73 rfl (infoCh x A1 c1) ?_; go_frame)
            | ((with_reducible show wpList _ _ _ _ _ wr); refine wpList_allocS rfl 73 rfl _ zeroCh ?_; intro g1 w1 hk1 hb1 hg1; go_frame; have K1 := hid hk1; have B1 := hid (below_chain HB.out hb1); have G1 := hid hg1; clear hk1 hb1 hg1)
            | ((with_reducible show wpList _ _ _ _ _ w1); refine wpList_storeS rfl 73 _ _ rfl g1 rfl (chCells x A1 c1) chZero rfl K1.out rfl (chCells_one x A1 c1) (infoCh x A1 c1) ?_; intro w2 hk2 ht2; go_frame; have K2 := hid hk2; have B2 := hid (below_turn B1.out ht2 B1.out.size (Nat.le_trans HB.out.size G1.out)); clear hk2 ht2)
            | ((with_reducible show wpList _ _ _ _ _ w2); refine wpList_loadS rfl 73 _ rfl g1 rfl (chCells x A1 c1) K2.out _ Tryz.underlying73 rfl (infoCh x A1 c1) ?_; go_frame))
          refine (HK.out w2).mono ?_
          rintro e w3 ⟨rfl, hb3⟩
          go_wp2_with fail
          go_roundw
          case rel => exact ⟨k + 1, by go_num, by rw [T3.out], hk, by rw [T1.out, HI.out]; rfl, below_chain B2.out hb3⟩
          case measure => simp [RowKit.intOf]; omega
        · have h16' : ¬ (x.1.length : Int) ≤ 16 := by omega
          have e16 : decide (x.1.length ≤ 16) = false := by simpa using h16
          rw [e16] at T2
          go_wp2_with (first
            | ((with_reducible show wpList _ _ _ _ _ wr); refine wpList_load_agg rfl 73 _ rfl b (off + k * 3) rfl (chCells x A1 c1) HAT.out _ Tryz.underlying73 rfl (infoCh x A1 c1) ?_; go_frame)
            | ((with_reducible show wpList _ _ _ _ _ wr); refine wpList_allocS rfl 73 rfl _ zeroCh ?_; intro g1 w1 hk1 hb1 hg1; go_frame; have K1 := hid hk1; have B1 := hid (below_chain HB.out hb1); have G1 := hid hg1; clear hk1 hb1 hg1)
            | ((with_reducible show wpList _ _ _ _ _ w1); refine wpList_storeS rfl 73 _ _ rfl g1 rfl (chCells x A1 c1) chZero rfl K1.out rfl (chCells_one x A1 c1) (infoCh x A1 c1) ?_; intro w2 hk2 ht2; go_frame; have K2 := hid hk2; have B2 := hid (below_turn B1.out ht2 B1.out.size (Nat.le_trans HB.out.size G1.out)); clear hk2 ht2)
            | ((with_reducible show wpList _ _ _ _ _ w2); refine wpList_loadS rfl 73 _ rfl g1 rfl (chCells x A1 c1) K2.out _ Tryz.underlying73 rfl (infoCh x A1 c1) ?_; go_frame))
          refine (HK.out w2).mono ?_
          rintro e w3 ⟨rfl, hb3⟩
          go_wp2_with fail
          go_ret
          exact ⟨by rw [T2.out (by first | trivial | rfl)]; first | done | rfl, below_chain B2.out hb3⟩
    · have hv := hid (show riseP [] (t.map (·.1)) = true by have := HI.out; rwa [List.take_of_length_le (by simp; omega)] at this)
      go_wp2_with fail
      go_ret
      exact ⟨by rw [hv.out]; first | done | rfl, HB.out⟩
set_option maxHeartbeats 2000000 in
theorem May_any (t : List Rw) (A : Option Addr) (c : Nat) (F : Nat → Prop) (w : World) (hs : SmallR t) (hr : RdX rowE w F A t) :
    Calls Tryz.prog 121 #[.slice A t.length c] w fun e w' => e = .returned (.bool (mayP t)) ∧ Below w.heap.size w w' := by
  have hl := hs.1
  have hl' : (t.length : Int) ≤ 9223372036854775807 := by omega
  have hend := fun u (hb : Below w.heap.size w u) => rise_row t A c F u hs (hr.below hb)
  have HE := hid hend
  have HR := hid hr
  clear hs hr hl hend
  go_enter Tryz.func121, Tryz.ntmps121
  go_wp2_with fail
  go_loopw [7] (fun j wr => ∃ k : Nat, j = .int .i64 k ∧ k ≤ t.length ∧ (t.take k).all (fun x => decide (x.2.length ≤ 8192)) = true ∧ Below w.heap.size w wr) (fun j _ => t.length - (RowKit.intOf j).toNat)
  case atStart => exact ⟨0, rfl, Nat.zero_le _, rfl, Below.refl _ _⟩
  case round =>
    obtain ⟨k, rfl, hk0, hI, hB⟩ := hrel
    have HI := hid hI
    have HB := hid hB
    clear hI hB
    by_cases hk : k < t.length
    · obtain ⟨b, off, A1, c1, rfl, hat, hbv⟩ := row_rd (HR.out.below HB.out) k hk
      have HAT := hid hat
      have hk' : (k : Int) < (t.length : Int) := by omega
      have T1 := hid (all_take (p := (fun x => decide (x.2.length ≤ 8192))) hk)
      have hnone := fun h => may_none hk h
      have T0 := hid hnone
      clear hnone
      generalize t[k] = x at *
      clear hat hbv
      by_cases h8 : x.2.length ≤ 8192
      · have h8' : (x.2.length : Int) ≤ 8192 := by omega
        have e8 : decide (x.2.length ≤ 8192) = true := by simpa using h8
        have T1 := hid (T1.out.trans (by rw [e8]))
        clear T0
        go_wp2_with (first
          | ((with_reducible show wpList _ _ _ _ _ wr); refine wpList_load_agg rfl 78 _ rfl b (off + k * 2) rfl (rwCells x A1 c1) HAT.out _ Tryz.underlying78 rfl (infoRw x A1 c1) ?_; go_frame)
          | ((with_reducible show wpList _ _ _ _ _ wr); refine wpList_allocS rfl 78 rfl _ zeroRw ?_; intro g1 w1 hk1 hb1 hg1; go_frame; have K1 := hid hk1; have B1 := hid (below_chain HB.out hb1); have G1 := hid hg1; clear hk1 hb1 hg1)
          | ((with_reducible show wpList _ _ _ _ _ w1); refine wpList_storeS rfl 78 _ _ rfl g1 rfl (rwCells x A1 c1) rwZero rfl K1.out rfl (rwCells_one x A1 c1) (infoRw x A1 c1) ?_; intro w2 hk2 ht2; go_frame; have K2 := hid hk2; have q1 := rw_c1 hk2; have B2 := hid (below_turn B1.out ht2 B1.out.size (Nat.le_trans HB.out.size G1.out)); clear hk2 ht2))
        go_roundw
        case rel => exact ⟨k + 1, by go_num, hk, by rw [T1.out, HI.out]; first | done | rfl, B2.out⟩
        case measure => simp [RowKit.intOf]; omega
      · have h8' : ¬ (x.2.length : Int) ≤ 8192 := by omega
        have T2 := hid (T0.out h8)
        clear T0
        go_wp2_with (first
          | ((with_reducible show wpList _ _ _ _ _ wr); refine wpList_load_agg rfl 78 _ rfl b (off + k * 2) rfl (rwCells x A1 c1) HAT.out _ Tryz.underlying78 rfl (infoRw x A1 c1) ?_; go_frame)
          | ((with_reducible show wpList _ _ _ _ _ wr); refine wpList_allocS rfl 78 rfl _ zeroRw ?_; intro g1 w1 hk1 hb1 hg1; go_frame; have K1 := hid hk1; have B1 := hid (below_chain HB.out hb1); have G1 := hid hg1; clear hk1 hb1 hg1)
          | ((with_reducible show wpList _ _ _ _ _ w1); refine wpList_storeS rfl 78 _ _ rfl g1 rfl (rwCells x A1 c1) rwZero rfl K1.out rfl (rwCells_one x A1 c1) (infoRw x A1 c1) ?_; intro w2 hk2 ht2; go_frame; have K2 := hid hk2; have q1 := rw_c1 hk2; have B2 := hid (below_turn B1.out ht2 B1.out.size (Nat.le_trans HB.out.size G1.out)); clear hk2 ht2))
        go_ret
        exact ⟨by rw [T2.out]; first | done | rfl, B2.out⟩
    · have hv := hid (may_all (show t.all (fun x => decide (x.2.length ≤ 8192)) = true by have := HI.out; rwa [List.take_of_length_le (by omega)] at this))
      go_wp2_with fail
      refine (HE.out wr HB.out).mono ?_
      rintro e w3 ⟨rfl, hb3⟩
      go_wp2_with fail
      go_ret
      exact ⟨by rw [hv.out]; first | done | rfl, below_chain HB.out hb3⟩
theorem chC1 {w : World} {g : Nat} {x : Ch} {A : Option Addr} {c : Nat} (h : Cs w g 73 (chCells x A c).toArray) : w.cell? ⟨g, 1, none⟩ = some (.slice A x.2.1.length c) := h.cell 1 rfl
theorem chC2 {w : World} {g : Nat} {x : Ch} {A : Option Addr} {c : Nat} (h : Cs w g 73 (chCells x A c).toArray) : w.cell? ⟨g, 2, none⟩ = some (.bool x.2.2) := h.cell 2 rfl
set_option maxHeartbeats 2000000 in
theorem MayC_any (t : List Ch) (A : Option Addr) (c : Nat) (F : Nat → Prop) (w : World) (hs : SmallC t) (hr : RdX chgE w F A t) :
    Calls Tryz.prog 46 #[.slice A t.length c] w fun e w' => e = .returned (.bool (mayCP t)) ∧ Below w.heap.size w w' := by
  have hl := hs.1
  have hl' : (t.length : Int) ≤ 9223372036854775807 := by omega
  have hend := fun u (hb : Below w.heap.size w u) => rise_chg t A c F u hs (hr.below hb)
  have HE := hid hend
  have HR := hid hr
  clear hs hr hl hend
  go_enter Tryz.func46, Tryz.ntmps46
  go_wp2_with fail
  go_loopw [7] (fun j wr => ∃ k : Nat, j = .int .i64 k ∧ k ≤ t.length ∧ (t.take k).all okV = true ∧ Below w.heap.size w wr) (fun j _ => t.length - (RowKit.intOf j).toNat)
  case atStart => exact ⟨0, rfl, Nat.zero_le _, rfl, Below.refl _ _⟩
  case round =>
    obtain ⟨k, rfl, hk0, hI, hB⟩ := hrel
    have HI := hid hI
    have HB := hid hB
    clear hI hB
    by_cases hk : k < t.length
    · obtain ⟨b, off, A1, c1, rfl, hat, hbv⟩ := chg_rd (HR.out.below HB.out) k hk
      have HAT := hid hat
      have hk' : (k : Int) < (t.length : Int) := by omega
      have T1 := hid (all_take (p := okV) hk)
      have hnone := fun h => mayC_none hk h
      have T0 := hid hnone
      clear hnone
      generalize t[k] = x at *
      clear hat hbv
      obtain ⟨x1, x2, z⟩ := x
      try dsimp only at *
      by_cases h8 : x2.length ≤ 8192
      · have h8' : (x2.length : Int) ≤ 8192 := by omega
        have e8 : decide (x2.length ≤ 8192) = true := by simpa using h8
        cases z
        · have T1 := hid (T1.out.trans (by rw [show okV (x1, x2, false) = true by simp [okV, e8, h8]]))
          clear T0
          go_wp2_with (first
            | ((with_reducible show wpList _ _ _ _ _ wr); refine wpList_load_agg rfl 73 _ rfl b (off + k * 3) rfl (chCells (x1, x2, false) A1 c1) HAT.out _ Tryz.underlying73 rfl (infoCh (x1, x2, false) A1 c1) ?_; go_frame)
            | ((with_reducible show wpList _ _ _ _ _ wr); refine wpList_allocS rfl 73 rfl _ zeroCh ?_; intro g1 w1 hk1 hb1 hg1; go_frame; have K1 := hid hk1; have B1 := hid (below_chain HB.out hb1); have G1 := hid hg1; clear hk1 hb1 hg1)
            | ((with_reducible show wpList _ _ _ _ _ w1); refine wpList_storeS rfl 73 _ _ rfl g1 rfl (chCells (x1, x2, false) A1 c1) chZero rfl K1.out rfl (chCells_one (x1, x2, false) A1 c1) (infoCh (x1, x2, false) A1 c1) ?_; intro w2 hk2 ht2; go_frame; have K2 := hid hk2; have q1 := chC1 hk2; have q2 := chC2 hk2; have B2 := hid (below_turn B1.out ht2 B1.out.size (Nat.le_trans HB.out.size G1.out)); clear hk2 ht2))
          go_roundw
          case rel => exact ⟨k + 1, by go_num, hk, by rw [T1.out, HI.out]; first | done | rfl, B2.out⟩
          case measure => simp [RowKit.intOf]; omega
        · by_cases h0 : 0 < x2.length
          · have h0' : (0 : Int) < (x2.length : Int) := by omega
            have T2 := hid (T0.out (by simp [okV, h0]))
            clear T0
            go_wp2_with (first
              | ((with_reducible show wpList _ _ _ _ _ wr); refine wpList_load_agg rfl 73 _ rfl b (off + k * 3) rfl (chCells (x1, x2, true) A1 c1) HAT.out _ Tryz.underlying73 rfl (infoCh (x1, x2, true) A1 c1) ?_; go_frame)
              | ((with_reducible show wpList _ _ _ _ _ wr); refine wpList_allocS rfl 73 rfl _ zeroCh ?_; intro g1 w1 hk1 hb1 hg1; go_frame; have K1 := hid hk1; have B1 := hid (below_chain HB.out hb1); have G1 := hid hg1; clear hk1 hb1 hg1)
              | ((with_reducible show wpList _ _ _ _ _ w1); refine wpList_storeS rfl 73 _ _ rfl g1 rfl (chCells (x1, x2, true) A1 c1) chZero rfl K1.out rfl (chCells_one (x1, x2, true) A1 c1) (infoCh (x1, x2, true) A1 c1) ?_; intro w2 hk2 ht2; go_frame; have K2 := hid hk2; have q1 := chC1 hk2; have q2 := chC2 hk2; have B2 := hid (below_turn B1.out ht2 B1.out.size (Nat.le_trans HB.out.size G1.out)); clear hk2 ht2))
            go_ret
            exact ⟨by rw [T2.out]; first | done | rfl, B2.out⟩
          · have h0' : ¬ (0 : Int) < (x2.length : Int) := by omega
            have T1 := hid (T1.out.trans (by rw [show okV (x1, x2, true) = true by simp [okV, h8, h0]]))
            clear T0
            go_wp2_with (first
              | ((with_reducible show wpList _ _ _ _ _ wr); refine wpList_load_agg rfl 73 _ rfl b (off + k * 3) rfl (chCells (x1, x2, true) A1 c1) HAT.out _ Tryz.underlying73 rfl (infoCh (x1, x2, true) A1 c1) ?_; go_frame)
              | ((with_reducible show wpList _ _ _ _ _ wr); refine wpList_allocS rfl 73 rfl _ zeroCh ?_; intro g1 w1 hk1 hb1 hg1; go_frame; have K1 := hid hk1; have B1 := hid (below_chain HB.out hb1); have G1 := hid hg1; clear hk1 hb1 hg1)
              | ((with_reducible show wpList _ _ _ _ _ w1); refine wpList_storeS rfl 73 _ _ rfl g1 rfl (chCells (x1, x2, true) A1 c1) chZero rfl K1.out rfl (chCells_one (x1, x2, true) A1 c1) (infoCh (x1, x2, true) A1 c1) ?_; intro w2 hk2 ht2; go_frame; have K2 := hid hk2; have q1 := chC1 hk2; have q2 := chC2 hk2; have B2 := hid (below_turn B1.out ht2 B1.out.size (Nat.le_trans HB.out.size G1.out)); clear hk2 ht2))
            go_roundw
            case rel => exact ⟨k + 1, by go_num, hk, by rw [T1.out, HI.out]; first | done | rfl, B2.out⟩
            case measure => simp [RowKit.intOf]; omega
      · have h8' : ¬ (x2.length : Int) ≤ 8192 := by omega
        have T2 := hid (T0.out (by simp [okV, h8]))
        clear T0
        go_wp2_with (first
          | ((with_reducible show wpList _ _ _ _ _ wr); refine wpList_load_agg rfl 73 _ rfl b (off + k * 3) rfl (chCells (x1, x2, z) A1 c1) HAT.out _ Tryz.underlying73 rfl (infoCh (x1, x2, z) A1 c1) ?_; go_frame)
          | ((with_reducible show wpList _ _ _ _ _ wr); refine wpList_allocS rfl 73 rfl _ zeroCh ?_; intro g1 w1 hk1 hb1 hg1; go_frame; have K1 := hid hk1; have B1 := hid (below_chain HB.out hb1); have G1 := hid hg1; clear hk1 hb1 hg1)
          | ((with_reducible show wpList _ _ _ _ _ w1); refine wpList_storeS rfl 73 _ _ rfl g1 rfl (chCells (x1, x2, z) A1 c1) chZero rfl K1.out rfl (chCells_one (x1, x2, z) A1 c1) (infoCh (x1, x2, z) A1 c1) ?_; intro w2 hk2 ht2; go_frame; have K2 := hid hk2; have q1 := chC1 hk2; have q2 := chC2 hk2; have B2 := hid (below_turn B1.out ht2 B1.out.size (Nat.le_trans HB.out.size G1.out)); clear hk2 ht2))
        go_ret
        exact ⟨by rw [T2.out]; first | done | rfl, B2.out⟩
    · have hv := hid (mayC_all (show t.all okV = true by have := HI.out; rwa [List.take_of_length_le (by omega)] at this))
      go_wp2_with fail
      refine (HE.out wr HB.out).mono ?_
      rintro e w3 ⟨rfl, hb3⟩
      go_wp2_with fail
      go_ret
      exact ⟨by rw [hv.out]; first | done | rfl, below_chain HB.out hb3⟩
set_option maxHeartbeats 2000000 in
theorem Shared_any (a b : Key) (w : World) (ha : a.length ≤ 9223372036854775807) (hb : b.length ≤ 9223372036854775807) :
    Calls Tryz.prog 181 #[.string ⟨a.toArray⟩, .string ⟨b.toArray⟩] w fun e w' => e = .returned (.int .i64 (sharedP a b : Int)) ∧ Below w.heap.size w w' := by
  have ha' : (a.length : Int) ≤ 9223372036854775807 := by omega
  have hb' : (b.length : Int) ≤ 9223372036854775807 := by omega
  have hmin : min (a.length : Int) (b.length : Int) = ((min a.length b.length : Nat) : Int) := by omega
  go_enter Tryz.func181, Tryz.ntmps181
  go_wp2_with fail
  generalize hm : min a.length b.length = m at *
  go_loopw [6, 13] (fun _ j wr => ∃ n : Nat, j = .int .i64 n ∧ n ≤ m ∧ a.take n = b.take n ∧ Below w.heap.size w wr) (fun _ j _ => m - (RowKit.intOf j).toNat)
  case atStart => exact ⟨0, rfl, Nat.zero_le _, by simp, Below.refl _ _⟩
  case round =>
    obtain ⟨n, rfl, h1, ht, hB⟩ := hrel
    have HT := hid ht
    have HB := hid hB
    clear ht hB
    by_cases hl : n < m
    · have hl' : (n : Int) < (m : Int) := by omega
      have l1 : n < a.length := by omega
      have l2 : n < b.length := by omega
      have l1' : (n : Int) < (a.length : Int) := by omega
      have l2' : (n : Int) < (b.length : Int) := by omega
      have HM := hid hm
      by_cases he : a[n] = b[n]
      · have e1 : ((((⟨a.toArray⟩ : ByteArray)[n]'(sv_lt l1)).toNat : Int) == (((⟨b.toArray⟩ : ByteArray)[n]'(sv_lt l2)).toNat : Int)) = true := by rw [sv_get l1, sv_get l2, he]; simp
        have HN := hid (take_next HT.out l1 l2 he)
        clear he hm
        go_wp2_with fail
        go_quiet (fail)
        go_wp2_with fail
        go_roundw
        case rel => exact ⟨n + 1, by go_num, hl, HN.out, below_drewN HB.out _⟩
        case measure => simp [RowKit.intOf]; omega
      · have e1 : ((((⟨a.toArray⟩ : ByteArray)[n]'(sv_lt l1)).toNat : Int) == (((⟨b.toArray⟩ : ByteArray)[n]'(sv_lt l2)).toNat : Int)) = false := by
          rw [sv_get l1, sv_get l2]
          rw [beq_eq_false_iff_ne]
          intro h
          exact he (UInt8.toNat_inj.1 (by omega))
        have HS := hid (shared_stop a b n HT.out (by omega) (by omega) (.inr (.inr (by rw [List.getElem?_eq_getElem l1, List.getElem?_eq_getElem l2]; intro h; exact he (Option.some.inj h)))))
        clear he hm
        go_wp2_with fail
        go_quiet (fail)
        go_wp2_with fail
        go_ret
        exact ⟨by rw [HS.out]; first | done | rfl, below_drewN HB.out _⟩
    · have hl' : ¬ (n : Int) < (m : Int) := by omega
      have en : n = m := by omega
      have HS := hid (shared_stop a b n HT.out (by omega) (by omega) (by omega))
      have HE := hid en
      clear hm en
      go_wp2_with fail
      go_ret
      exact ⟨by rw [HS.out, HE.out]; first | done | rfl, HB.out⟩
end Go.Proofs.YtfgbpinfplllgaaGreatDoor
namespace Go.Proofs.YtfgbpinfplllgaaGreatDoor
open Go.RowKit Go.Shelf
set_option maxRecDepth 100000
theorem bnum_any (x : Int) (k : Nat) (w : World) (hs : sizeB k = true) (h0 : 0 ≤ x) (h1 : x ≤ 65535) (hf : fitsB x k = true) :
    Calls Tryz.prog 185 #[.int .i64 x, .int .i64 k] w fun e w' => ∃ g, e = .returned (.slice (some ⟨g, 0, none⟩) k k) ∧ Below w.heap.size w w' ∧ Rd w' (some ⟨g, 0, none⟩) (beL x k) := by
  have hput := fun u => Put_ok x k hs h0 (by omega) u hf
  have HP := hid hput
  clear hput hf hs
  go_enter Tryz.func185, Tryz.ntmps185
  go_wp2_with fail
  refine (HP.out w).mono ?_
  rintro e w1 ⟨rfl, hb, hr⟩
  have HB := hid hb
  have HR := hid hr
  clear hb hr
  go_wp2_with fail
  go_ret
  exact ⟨_, rfl, HB.out, HR.out⟩
theorem be1_is {n : Nat} (h : n < 256) : beL (n : Int) 1 = [UInt8.ofNat n] := by
  have e : ((n : Int) % 256).toNat = n := by omega
  simp [beL, List.range_succ, e]
theorem chC0 {w : World} {g : Nat} {x : Ch} {A : Option Addr} {c : Nat} (h : Cs w g 73 (chCells x A c).toArray) : w.cell? ⟨g, 0, none⟩ = some (.string ⟨x.1.toArray⟩) := h.cell 0 rfl
theorem one_parts (last k v : List UInt8) (z : Bool) (n : Nat) (h : sharedP last k = n) (hn : n ≤ 255) (hk : k.length ≤ 16) : oneP last (k, v, z) = beL (n : Int) 1 ++ beL ((k.length : Int) - (n : Int)) 1 ++ k.drop n ++ beL (sizeC (k, v, z) : Int) 2 ++ v := by
  have h2 := (shared_le last k).2
  rw [h] at h2
  rw [show (k.length : Int) - (n : Int) = ((k.length - n : Nat) : Int) by omega, be1_is (by omega), be1_is (by omega)]
  unfold oneP
  dsimp only
  rw [h]
  rfl
def PutBRet (t : List Ch) (w : World) (e : Ending) (w' : World) : Prop := Below w.heap.size w w' ∧
  if mayCP t then ∃ v, e = .returned (.tuple #[v, .int .i64 0]) ∧ w'.ownsRow w.heap.size 5 1 v (putFrom [] t).length (cellsOf (putFrom [] t))
  else e = .returned (.tuple #[.slice none 0 0, .int .i64 2])
set_option maxHeartbeats 8000000 in
theorem BPut_any (t : List Ch) (A : Option Addr) (c : Nat) (F : Nat → Prop) (w : World) (hs : SmallC t) (ht : t.length ≤ 100000) (hr : RdX chgE w F A t) :
    Calls Tryz.prog 160 #[.slice A t.length c] w fun e w' => PutBRet t w e w' := by
  have hmay := MayC_any t A c F w hs hr
  unfold PutBRet
  cases hm : mayCP t
  · rw [hm] at hmay
    simp only [Bool.false_eq_true, if_false]
    clear hm
    go_enter Tryz.func160, Tryz.ntmps160
    go_wp2_with fail
    refine hmay.mono ?_
    rintro e w1 ⟨rfl, hb⟩
    go_wp2_with fail
    go_ret2
    exact ⟨hb, rfl⟩
  · rw [hm] at hmay
    simp only [if_true]
    have HM := hid hm
    have HS := hid hs
    have HR := hid hr
    have hl' : (t.length : Int) ≤ 9223372036854775807 := by omega
    clear hm hs hr
    go_enter Tryz.func160, Tryz.ntmps160
    go_wp2_with fail
    refine hmay.mono ?_
    clear hmay
    rintro e w1 ⟨rfl, hb⟩
    have HB1 := hid hb
    clear hb
    go_wp2_with fail
    go_loopw [4, 5, 14] (fun bv kv i wr => ∃ k : Nat, k ≤ t.length ∧ i = .int .i64 (k : Int) ∧ kv = .string ⟨(aheadC t k).toArray⟩ ∧ wr.ownsRow w.heap.size 5 1 bv (putFrom [] (t.take k)).length (cellsOf (putFrom [] (t.take k))) ∧ Below w.heap.size w wr) (fun _ _ i _ => t.length - (intOf i).toNat)
    case atStart => exact ⟨0, Nat.zero_le _, rfl, rfl, World.ownsRow_nil _ _ _ _, HB1.out⟩
    case round =>
      obtain ⟨k, hk, rfl, rfl, ho, hb⟩ := hrel
      have HO := hid ho
      have HB := hid hb
      clear ho hb HB1
      by_cases hlt : k < t.length
      · have hlt' : (k : Int) < (t.length : Int) := by omega
        obtain ⟨b, off, A1, c1, rfl, hat, hr1, hn1, hx1, hx2⟩ := chg_rd HR.out k hlt
        have hok := mayC_ok HM.out hlt
        have hal := ahead_len HM.out hk
        have hall : (putFrom [] (t.take k)).length ≤ 8300 * k := by
          have := put_most (t.take k) [] (mayCFrom_take t [] k HM.out)
          rw [List.length_take] at this
          have : min k t.length = k := by omega
          omega
        have HNX := hid (show aheadC t (k + 1) = t[k].1 from aheadC_succ hlt)
        have HPT := hid (put_take hlt)
        have HAT := hid (show At wr b (off + k * 3) (chCells t[k] A1 c1) from fun j v hv => (HB.out.cell (lt_of_cell (hat j v hv))).trans (hat j v hv))
        have HRD := hid hr1.rd
        have HN1 := hid hn1
        generalize aheadC t k = last at *
        generalize hx : t[k] = x at *
        clear hat hr1 hn1 hx
        generalize putFrom [] (t.take k) = pre at *
        obtain ⟨x1, x2, z⟩ := x
        obtain ⟨⟨h1, h2, h3, h4⟩, h5⟩ := okC_iff.1 hok
        obtain ⟨hs1, hs2, hs3⟩ := sizeC_le hok
        dsimp only at *
        have hsl := shared_le last x1
        have hsh := fun u => Shared_any last x1 u (by omega) (by omega)
        generalize hn : sharedP last x1 = n at *
        have HOP := hid (one_parts last x1 x2 z n hn (by omega) h2)
        have hu1 := fun u => bnum_any (n : Int) 1 u rfl (by omega) (by omega) (by simp [fitsB, lim]; omega)
        have hu2 := fun u => bnum_any ((x1.length : Int) - (n : Int)) 1 u rfl (by omega) (by omega) (by simp [fitsB, lim]; omega)
        have HS1 := hid hsh
        have HU1 := hid hu1
        have HU2 := hid hu2
        have HH := hid h1
        have hz0 := hid (show 8300 * k + 8300 ≤ 1000000000 by omega)
        have h2' : (x1.length : Int) ≤ 16 := by omega
        have hn' : (n : Int) ≤ (x1.length : Int) := by omega
        have h4' : (x2.length : Int) ≤ 8192 := by omega
        have LEN := hid (show pre.length ≤ 1000000000 ∧ n ≤ 16 ∧ x1.length ≤ 16 ∧ x2.length ≤ 8192 by omega)
        clear hn hsh hu1 hu2 hok h3 hs3 h1 hsl hs1 hs2 hal hx1 hx2 hall
        cases z
        · have hsz : (sizeC (x1, x2, false) : Int) = (x2.length : Int) + 1 := by simp [sizeC]
          have hu3 := fun u => bnum_any ((x2.length : Int) + 1) 2 u rfl (by omega) (by omega) (by simp [fitsB, lim]; omega)
          have HZ := hid hsz
          have HU3 := hid hu3
          clear hsz hu3 h5
          have BW := HB.out.size
          go_wp2_with (first
            | ((with_reducible show wpList _ _ _ _ _ wr); refine wpList_load_agg rfl 73 _ rfl b (off + k * 3) rfl (chCells (x1, x2, false) A1 c1) HAT.out _ Tryz.underlying73 rfl (infoCh (x1, x2, false) A1 c1) ?_; go_frame)
            | ((with_reducible show wpList _ _ _ _ _ wr); refine wpList_allocS rfl 73 rfl _ zeroCh ?_; intro g1 w1 hk1 hb1 hg1; go_frame; have K1 := hid hk1; have B1 := hid (below_chain HB.out hb1); have O1 := hid (ownsRow_turn' HO.out (Turn.of_below hb1 fun _ => False) fun _ _ h => h); have G1 := hid hg1; clear hk1 hb1 hg1)
            | ((with_reducible show wpList _ _ _ _ _ w1); refine wpList_storeS rfl 73 _ _ rfl g1 rfl (chCells (x1, x2, false) A1 c1) chZero rfl K1.out rfl (chCells_one (x1, x2, false) A1 c1) (infoCh (x1, x2, false) A1 c1) ?_; intro w2 hk2 ht2; go_frame; have K2 := hid hk2; have q2a := chC0 hk2; have q2b := chC1 hk2; have q2c := chC2 hk2; have B2 := hid (below_turn B1.out ht2 B1.out.size (Nat.le_trans HB.out.size G1.out)); have O2 := hid (ownsRow_turn' O1.out ht2 (fun q h e => by subst e; exact own_ne O1.out K1.out (by decide) h)); clear hk2 ht2))
          clear HAT
          refine (HS1.out w2).mono ?_
          rintro e w3 ⟨rfl, hb⟩
          have K3 := hid (K2.out.below hb K2.out.lt)
          have q3a := chC0 K3.out; have q3b := chC1 K3.out; have q3c := chC2 K3.out
          have B3 := hid (below_chain B2.out hb)
          have O3 := hid (ownsRow_turn' O2.out (Turn.of_below hb fun _ => False) fun _ _ h => h)
          clear hb K2 B2 O2 q2a q2b q2c
          go_wp2_with fail
          refine (HU1.out w3).mono ?_
          rintro e w4 ⟨g4, rfl, hb, hr4⟩
          have K4 := hid (K3.out.below hb K3.out.lt)
          have q4a := chC0 K4.out; have q4b := chC1 K4.out; have q4c := chC2 K4.out
          have B4 := hid (below_chain B3.out hb)
          have O4 := hid (ownsRow_turn' O3.out (Turn.of_below hb fun _ => False) fun _ _ h => h)
          have R4 := hid hr4
          clear hb K3 B3 O3 q3a q3b q3c
          clear hr4
          go_wp2_with (first | ((with_reducible show wpList _ _ _ _ _ w4); at_builtin; go_loud (refine append_rd rfl _ _ rfl w.heap.size _ _ _ rfl O4.out (some ⟨g4, 0, none⟩) (beL (n : Int) 1) 1 1 rfl rfl R4.out (fun h => by cases h) (by have := LEN.out; simp [beL_length] <;> omega) B4.out.size ?_; intro v5 w5 ho hg; go_frame; have O5 := hid ho; have B5 := hid (B4.out.grown hg B4.out.size (own_base O4.out)); have K5 := hid (K4.out.turn (Turn.of_grown hg) (fun e => own_ne O4.out K4.out (by decide) e)); have q5a := chC0 K5.out; have q5b := chC1 K5.out; have q5c := chC2 K5.out; clear ho hg)))
          refine (HU2.out w5).mono ?_
          rintro e w6 ⟨g6, rfl, hb, hr6⟩
          have K6 := hid (K5.out.below hb K5.out.lt)
          have q6a := chC0 K6.out; have q6b := chC1 K6.out; have q6c := chC2 K6.out
          have B6 := hid (below_chain B5.out hb)
          have O6 := hid (ownsRow_turn' O5.out (Turn.of_below hb fun _ => False) fun _ _ h => h)
          have R6 := hid hr6
          clear hb K5 B5 O5 q5a q5b q5c
          clear hr6
          go_wp2_with (first
            | ((with_reducible show wpList _ _ _ _ _ w6); at_builtin; go_loud (refine append_rd rfl _ _ rfl w.heap.size _ _ _ rfl O6.out (some ⟨g6, 0, none⟩) (beL ((x1.length : Int) - (n : Int)) 1) 1 1 rfl rfl R6.out (fun h => by cases h) (by have := LEN.out; simp [beL_length] <;> omega) B6.out.size ?_; intro v7 w7 ho hg; go_frame; have O7 := hid ho; have B7 := hid (B6.out.grown hg B6.out.size (own_base O6.out)); have K7 := hid (K6.out.turn (Turn.of_grown hg) (fun e => own_ne O6.out K6.out (by decide) e)); have q7a := chC0 K7.out; have q7b := chC1 K7.out; have q7c := chC2 K7.out; clear ho hg))
            | ((with_reducible show wpList _ _ _ _ _ w7); at_builtin; go_loud (refine append_str rfl _ _ rfl w.heap.size _ _ _ rfl O7.out _ (x1.drop n) (sv_drop x1 n) rfl (by have := LEN.out; simp [beL_length] <;> omega) B7.out.size ?_; intro v8 w8 ho hg; go_frame; have O8 := hid ho; have B8 := hid (B7.out.grown hg B7.out.size (own_base O7.out)); have K8 := hid (K7.out.turn (Turn.of_grown hg) (fun e => own_ne O7.out K7.out (by decide) e)); have q8a := chC0 K8.out; have q8b := chC1 K8.out; have q8c := chC2 K8.out; clear ho hg)))
          refine (HU3.out w8).mono ?_
          rintro e w9 ⟨g9, rfl, hb, hr9⟩
          have K9 := hid (K8.out.below hb K8.out.lt)
          have q9a := chC0 K9.out; have q9b := chC1 K9.out; have q9c := chC2 K9.out
          have B9 := hid (below_chain B8.out hb)
          have O9 := hid (ownsRow_turn' O8.out (Turn.of_below hb fun _ => False) fun _ _ h => h)
          have R9 := hid hr9
          clear hb K8 B8 O8 q8a q8b q8c
          clear hr9
          go_wp2_with (first
            | ((with_reducible show wpList _ _ _ _ _ w9); at_builtin; go_loud (refine append_rd rfl _ _ rfl w.heap.size _ _ _ rfl O9.out (some ⟨g9, 0, none⟩) (beL ((x2.length : Int) + 1) 2) 2 2 rfl rfl R9.out (fun h => by cases h) (by have := LEN.out; simp [beL_length] <;> omega) B9.out.size ?_; intro v10 w10 ho hg; go_frame; have O10 := hid ho; have B10 := hid (B9.out.grown hg B9.out.size (own_base O9.out)); have K10 := hid (K9.out.turn (Turn.of_grown hg) (fun e => own_ne O9.out K9.out (by decide) e)); have q10a := chC0 K10.out; have q10b := chC1 K10.out; have q10c := chC2 K10.out; clear ho hg))
            | ((with_reducible show wpList _ _ _ _ _ w10); at_builtin; go_loud (refine append_rd rfl _ _ rfl w.heap.size _ _ _ rfl O10.out A1 x2 x2.length c1 rfl rfl (HRD.out.below B10.out) HN1.out (by have := LEN.out; simp [beL_length] <;> omega) B10.out.size ?_; intro v11 w11 ho hg; go_frame; have O11 := hid ho; have B11 := hid (B10.out.grown hg B10.out.size (own_base O10.out)); have K11 := hid (K10.out.turn (Turn.of_grown hg) (fun e => own_ne O10.out K10.out (by decide) e)); have q11a := chC0 K11.out; have q11b := chC1 K11.out; have q11c := chC2 K11.out; clear ho hg)))
          go_roundw
          case rel => exact ⟨k + 1, hlt, by go_num, by rw [HNX.out], by rw [HPT.out, HOP.out, HZ.out]; exact own_as O11.out (by simp only [List.append_assoc]) (by simp [beL_length] <;> omega), B11.out⟩
          case measure => simp [intOf]; omega
        · obtain rfl : x2 = [] := h5 rfl
          have hsz : (sizeC (x1, ([] : List UInt8), true) : Int) = 0 := by simp [sizeC]
          have hu3 := fun u => bnum_any 0 2 u rfl (by decide) (by decide) (by decide)
          have HZ := hid hsz
          have HU3 := hid hu3
          clear hsz hu3 h5
          have BW := HB.out.size
          go_wp2_with (first
            | ((with_reducible show wpList _ _ _ _ _ wr); refine wpList_load_agg rfl 73 _ rfl b (off + k * 3) rfl (chCells (x1, [], true) A1 c1) HAT.out _ Tryz.underlying73 rfl (infoCh (x1, [], true) A1 c1) ?_; go_frame)
            | ((with_reducible show wpList _ _ _ _ _ wr); refine wpList_allocS rfl 73 rfl _ zeroCh ?_; intro g1 w1 hk1 hb1 hg1; go_frame; have K1 := hid hk1; have B1 := hid (below_chain HB.out hb1); have O1 := hid (ownsRow_turn' HO.out (Turn.of_below hb1 fun _ => False) fun _ _ h => h); have G1 := hid hg1; clear hk1 hb1 hg1)
            | ((with_reducible show wpList _ _ _ _ _ w1); refine wpList_storeS rfl 73 _ _ rfl g1 rfl (chCells (x1, [], true) A1 c1) chZero rfl K1.out rfl (chCells_one (x1, [], true) A1 c1) (infoCh (x1, [], true) A1 c1) ?_; intro w2 hk2 ht2; go_frame; have K2 := hid hk2; have q2a := chC0 hk2; have q2b := chC1 hk2; have q2c := chC2 hk2; have B2 := hid (below_turn B1.out ht2 B1.out.size (Nat.le_trans HB.out.size G1.out)); have O2 := hid (ownsRow_turn' O1.out ht2 (fun q h e => by subst e; exact own_ne O1.out K1.out (by decide) h)); clear hk2 ht2))
          clear HAT
          refine (HS1.out w2).mono ?_
          rintro e w3 ⟨rfl, hb⟩
          have K3 := hid (K2.out.below hb K2.out.lt)
          have q3a := chC0 K3.out; have q3b := chC1 K3.out; have q3c := chC2 K3.out
          have B3 := hid (below_chain B2.out hb)
          have O3 := hid (ownsRow_turn' O2.out (Turn.of_below hb fun _ => False) fun _ _ h => h)
          clear hb K2 B2 O2 q2a q2b q2c
          go_wp2_with fail
          refine (HU1.out w3).mono ?_
          rintro e w4 ⟨g4, rfl, hb, hr4⟩
          have K4 := hid (K3.out.below hb K3.out.lt)
          have q4a := chC0 K4.out; have q4b := chC1 K4.out; have q4c := chC2 K4.out
          have B4 := hid (below_chain B3.out hb)
          have O4 := hid (ownsRow_turn' O3.out (Turn.of_below hb fun _ => False) fun _ _ h => h)
          have R4 := hid hr4
          clear hb K3 B3 O3 q3a q3b q3c
          clear hr4
          go_wp2_with (first | ((with_reducible show wpList _ _ _ _ _ w4); at_builtin; go_loud (refine append_rd rfl _ _ rfl w.heap.size _ _ _ rfl O4.out (some ⟨g4, 0, none⟩) (beL (n : Int) 1) 1 1 rfl rfl R4.out (fun h => by cases h) (by have := LEN.out; simp [beL_length] <;> omega) B4.out.size ?_; intro v5 w5 ho hg; go_frame; have O5 := hid ho; have B5 := hid (B4.out.grown hg B4.out.size (own_base O4.out)); have K5 := hid (K4.out.turn (Turn.of_grown hg) (fun e => own_ne O4.out K4.out (by decide) e)); have q5a := chC0 K5.out; have q5b := chC1 K5.out; have q5c := chC2 K5.out; clear ho hg)))
          refine (HU2.out w5).mono ?_
          rintro e w6 ⟨g6, rfl, hb, hr6⟩
          have K6 := hid (K5.out.below hb K5.out.lt)
          have q6a := chC0 K6.out; have q6b := chC1 K6.out; have q6c := chC2 K6.out
          have B6 := hid (below_chain B5.out hb)
          have O6 := hid (ownsRow_turn' O5.out (Turn.of_below hb fun _ => False) fun _ _ h => h)
          have R6 := hid hr6
          clear hb K5 B5 O5 q5a q5b q5c
          clear hr6
          go_wp2_with (first
            | ((with_reducible show wpList _ _ _ _ _ w6); at_builtin; go_loud (refine append_rd rfl _ _ rfl w.heap.size _ _ _ rfl O6.out (some ⟨g6, 0, none⟩) (beL ((x1.length : Int) - (n : Int)) 1) 1 1 rfl rfl R6.out (fun h => by cases h) (by have := LEN.out; simp [beL_length] <;> omega) B6.out.size ?_; intro v7 w7 ho hg; go_frame; have O7 := hid ho; have B7 := hid (B6.out.grown hg B6.out.size (own_base O6.out)); have K7 := hid (K6.out.turn (Turn.of_grown hg) (fun e => own_ne O6.out K6.out (by decide) e)); have q7a := chC0 K7.out; have q7b := chC1 K7.out; have q7c := chC2 K7.out; clear ho hg))
            | ((with_reducible show wpList _ _ _ _ _ w7); at_builtin; go_loud (refine append_str rfl _ _ rfl w.heap.size _ _ _ rfl O7.out _ (x1.drop n) (sv_drop x1 n) rfl (by have := LEN.out; simp [beL_length] <;> omega) B7.out.size ?_; intro v8 w8 ho hg; go_frame; have O8 := hid ho; have B8 := hid (B7.out.grown hg B7.out.size (own_base O7.out)); have K8 := hid (K7.out.turn (Turn.of_grown hg) (fun e => own_ne O7.out K7.out (by decide) e)); have q8a := chC0 K8.out; have q8b := chC1 K8.out; have q8c := chC2 K8.out; clear ho hg)))
          refine (HU3.out w8).mono ?_
          rintro e w9 ⟨g9, rfl, hb, hr9⟩
          have K9 := hid (K8.out.below hb K8.out.lt)
          have q9a := chC0 K9.out; have q9b := chC1 K9.out; have q9c := chC2 K9.out
          have B9 := hid (below_chain B8.out hb)
          have O9 := hid (ownsRow_turn' O8.out (Turn.of_below hb fun _ => False) fun _ _ h => h)
          have R9 := hid hr9
          clear hb K8 B8 O8 q8a q8b q8c
          clear hr9
          go_wp2_with (first
            | ((with_reducible show wpList _ _ _ _ _ w9); at_builtin; go_loud (refine append_rd rfl _ _ rfl w.heap.size _ _ _ rfl O9.out (some ⟨g9, 0, none⟩) (beL 0 2) 2 2 rfl rfl R9.out (fun h => by cases h) (by have := LEN.out; simp [beL_length] <;> omega) B9.out.size ?_; intro v10 w10 ho hg; go_frame; have O10 := hid ho; have B10 := hid (B9.out.grown hg B9.out.size (own_base O9.out)); have K10 := hid (K9.out.turn (Turn.of_grown hg) (fun e => own_ne O9.out K9.out (by decide) e)); have q10a := chC0 K10.out; have q10b := chC1 K10.out; have q10c := chC2 K10.out; clear ho hg))
            | ((with_reducible show wpList _ _ _ _ _ w10); at_builtin; go_loud (refine append_rd rfl _ _ rfl w.heap.size _ _ _ rfl O10.out A1 [] 0 c1 rfl rfl (HRD.out.below B10.out) (fun h => by have := HN1.out h; simpa using this) (by have := LEN.out; simp [beL_length] <;> omega) B10.out.size ?_; intro v11 w11 ho hg; go_frame; have O11 := hid ho; have B11 := hid (B10.out.grown hg B10.out.size (own_base O10.out)); have K11 := hid (K10.out.turn (Turn.of_grown hg) (fun e => own_ne O10.out K10.out (by decide) e)); have q11a := chC0 K11.out; have q11b := chC1 K11.out; have q11c := chC2 K11.out; clear ho hg)))
          go_roundw
          case rel => exact ⟨k + 1, hlt, by go_num, by rw [HNX.out], by rw [HPT.out, HOP.out, HZ.out]; exact own_as O11.out (by simp only [List.append_assoc]) (by simp [beL_length] <;> omega), B11.out⟩
          case measure => simp [intOf]; omega
      · have e0 : t.take k = t := List.take_of_length_le (by omega)
        go_wp2_with fail
        go_ret2
        have ho := HO.out
        rw [e0] at ho
        exact ⟨HB.out, _, rfl, ho⟩
end Go.Proofs.YtfgbpinfplllgaaGreatDoor
