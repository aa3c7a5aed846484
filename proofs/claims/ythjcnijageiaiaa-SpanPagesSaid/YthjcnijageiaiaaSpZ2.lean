/- The program: Len, Pages; slices.ContainsFunc at spans, Has, Holds. -/
import Derived.Shelf.GgClosure.Gives
import Derived.Test.YthjcnijageiaiaaSpZ1
namespace Go.Proofs.Ythjcnijageiaiaa
open Go.RowKit Go.Shelf
set_option linter.unusedVariables false
set_option maxRecDepth 100000
set_option linter.unusedSimpArgs false

set_option maxHeartbeats 8000000 in
theorem Len_v (l : List Sp) (A : Option Addr) (c : Nat) (F : Nat → Prop) (w : World) (hl : l.length ≤ 140737488355328) (r : RdX spE w F A l) :
    Calls Try.prog 19 #[.slice A l.length c] w fun e w' => e = .returned (.int .u64 (lenP l : Int)) ∧ Below w.heap.size w w' := by
  have HM := Lib.hid (May_v l A c F w hl r)
  have HP := Lib.hid r
  have H32 := Lib.hid r.lt32
  clear r
  go_enter Try.func19, Try.ntmps19
  go_wp2_with fail
  refine HM.out.mono ?_
  rintro e u1 ⟨rfl, hb1⟩
  have HB1 := Lib.hid hb1
  clear hb1
  cases hm : mayS l
  · have HF := Lib.hid (show lenP l = 0 by unfold lenP; rw [hm]; rfl)
    clear hm
    go_wp2_with fail
    go_ret
    exact ⟨by rw [HF.out]; first | done | rfl, HB1.out⟩
  · have HF := Lib.hid (show lenP l = lenS l by unfold lenP; rw [hm]; rfl)
    have HMM := Lib.hid hm
    clear hm
    go_wp2_with fail
    go_loopw [3, 11] (fun n j wr => ∃ k : Nat, j = .int .i64 k ∧ k ≤ l.length ∧ n = .int .u64 (lenS (l.take k) : Int) ∧ Below w.heap.size w wr) (fun _ j _ => l.length - (RowKit.intOf j).toNat)
    case atStart => exact ⟨0, rfl, Nat.zero_le _, rfl, HB1.out⟩
    case round =>
      obtain ⟨k, rfl, hk, rfl, hb⟩ := hrel
      by_cases hlt : k < l.length
      · obtain ⟨b, off, rfl, hat, hx1, hx2⟩ := sp_cells (HP.out.below hb) k hlt
        have HB := Lib.hid hb
        have HAT := Lib.hid hat
        have h12 := mayS_get HMM.out hlt
        have hn : lenS (l.take k) + (l[k].2 - l[k].1) = lenS (l.take (k + 1)) := by rw [List.take_succ_eq_append_getElem hlt, lenS_snoc]
        have hle : lenS (l.take (k + 1)) ≤ 4294967296 := lenS_32 (mayFS_take l 0 (k + 1) HMM.out) fun t ht => (H32.out t (List.mem_of_mem_take ht)).2
        generalize l[k] = y at *
        obtain ⟨y1, y2⟩ := y
        dsimp only at *
        generalize lenS (l.take k) = n0 at *
        generalize hn1 : lenS (l.take (k + 1)) = n1 at *
        have HN := Lib.hid hn
        have HN1 := Lib.hid hn1
        have i1 : (y1 : Int) < y2 := by omega
        have i2 : (y2 : Int) < 4294967296 := by omega
        have i3 : (n0 : Int) + ((y2 : Int) - (y1 : Int)) ≤ 4294967296 := by omega
        have i4 : (y1 : Int) < 4294967296 := by omega
        clear hn hn1 hle hx1 hx2 hk h12 hb hat
        go_wp2_with (first
          | ((with_reducible show wpList _ _ _ _ _ wr); refine wpList_load_agg rfl 25 _ rfl b (off + k * 2) rfl (spC (y1, y2)) HAT.out _ Try.underlying25 rfl infoSpan ?_; go_frame)
          | ((with_reducible show wpList _ _ _ _ _ wr); refine wpList_allocS rfl 25 rfl spanZ spanZero ?_; intro g1 w1 hk1 hb1 hg1; go_frame; have C1 := Lib.hid hk1; have B1 := Lib.hid hb1; have G1 := Lib.hid hg1; clear hk1 hb1 hg1)
          | ((with_reducible show wpList _ _ _ _ _ w1); refine wpList_storeS rfl 25 _ _ rfl g1 rfl (spC (y1, y2)) spanZ rfl C1.out rfl (spC_one _) infoSpan ?_; intro w2 hk2 ht2; go_frame; have q0 : w2.cell? ⟨g1, 0, none⟩ = some (.int .u32 (y1 : Int)) := hk2.cell 0 rfl; have q1 : w2.cell? ⟨g1, 1, none⟩ = some (.int .u32 (y2 : Int)) := hk2.cell 1 rfl; have B2 := Lib.hid (below_chain HB.out (below_turn B1.out ht2 B1.out.size G1.out)); clear hk2 ht2)
          | fail)
        go_roundw
        case rel => exact ⟨k + 1, by go_num, hlt, by rw [HN1.out]; congr 1; have := HN.out; omega, B2.out⟩
        case measure => simp [RowKit.intOf]; omega
      · have HB := Lib.hid hb
        have HF2 := Lib.hid (show lenP l = lenS (l.take k) by rw [HF.out, List.take_of_length_le (by omega)])
        clear hb hk
        go_wp2_with fail
        go_ret
        exact ⟨by rw [HF2.out]; first | done | rfl, HB.out⟩
theorem pages_stop (s : Sp) (n : Nat) : ∀ N, n ≤ N → (∀ m, n ≤ m → m < N → touches s m = false) → (List.range N).filter (touches s) = (List.range n).filter (touches s)
  | 0, h, _ => by obtain rfl : n = 0 := by omega
                  rfl
  | N + 1, h, k => by
    by_cases hc : n = N + 1
    · subst hc; rfl
    · rw [pages_succ, k N (by omega) (by omega), if_neg (by simp)]
      exact pages_stop s n N (by omega) fun m h1 h2 => k m h1 (by omega)
theorem pages_none (s : Sp) (n : Nat) (k : ∀ m, m < n → touches s m = false) : (List.range n).filter (touches s) = [] := by
  rw [pages_stop s 0 n (Nat.zero_le _) fun m _ h => k m h]
  rfl
set_option maxHeartbeats 8000000 in
theorem Pages_v (s : Sp) (w : World) (hs : s.1 < 4294967296 ∧ s.2 < 4294967296) :
    Calls Try.prog 22 #[.agg (spC s).toArray] w fun e w' => GivesX ptE (pagesP s) w e w' := by
  have HPG := Lib.hid (show pagesP s = if s.1 < s.2 ∧ s.2 ≤ 4096 then (List.range 64).filter (touches s) else [] from rfl)
  obtain ⟨h32, h33⟩ := hs
  by_cases h1 : s.1 < s.2
  · have e1 : ¬ s.2 ≤ s.1 := by omega
    by_cases h2 : s.2 ≤ 4096
    · have e2 : ¬ 4096 < s.2 := by omega
      obtain ⟨a, ha⟩ : ∃ a, s.1 / 64 = a := ⟨_, rfl⟩
      obtain ⟨z, hz⟩ : ∃ z, (s.2 - 1) / 64 = z := ⟨_, rfl⟩
      have HF := Lib.hid (show pagesP s = (List.range (z + 1)).filter (touches s) by
        rw [HPG.out, if_pos ⟨h1, h2⟩]
        exact pages_stop s (z + 1) 64 (by omega) fun m k1 k2 => touch_no fun h => by omega)
      have H0 := Lib.hid (show (List.range a).filter (touches s) = [] from pages_none s a fun m hm => touch_no fun h => by omega)
      have HS := Lib.hid (fun n (h1 : a ≤ n) (h2 : n ≤ z) => show (List.range (n + 1)).filter (touches s) = (List.range n).filter (touches s) ++ [n] by rw [pages_succ, touch_yes (by omega) (by omega), if_pos rfl])
      have ea : (s.1 : Int) / 64 = a := by omega
      have ez : ((s.2 : Int) - 1) / 64 = z := by omega
      have hz64 : z < 64 := by omega
      have haz : a ≤ z := by omega
      have HA0 := Lib.hid ha
      have HZ0 := Lib.hid hz
      have p2 : (1 : Int) ≤ s.2 := by omega
      clear HPG ha hz
      go_enter Try.func22, Try.ntmps22
      go_wp2_with (first
        | ((with_reducible show wpList _ _ _ _ _ w); refine wpList_boxS rfl 25 _ rfl (spC s) rfl ?_; intro g1 w1 hk1 hb1 hg1; go_frame; have C1 := Lib.hid hk1; have B1 := Lib.hid hb1; have G1 := Lib.hid hg1; have q0 : w1.cell? ⟨g1, 0, none⟩ = some (.int .u32 (s.1 : Int)) := C1.out.cell 0 rfl; have q1 : w1.cell? ⟨g1, 1, none⟩ = some (.int .u32 (s.2 : Int)) := C1.out.cell 1 rfl; clear hk1 hb1 hg1)
        | fail)
      go_loopw [3, 4] (fun v j wr => ∃ n : Nat, j = .int .u32 (n : Int) ∧ a ≤ n ∧ n ≤ z + 1 ∧ AppX ptE w1 v ((List.range n).filter (touches s)) wr) (fun _ j _ => 64 - (RowKit.intOf j).toNat)
      case atStart => exact ⟨a, by first | rfl | rw [ea], Nat.le_refl _, by omega, by rw [H0.out]; exact AppX.nil (Below.refl _ _)⟩
      case round =>
        obtain ⟨n, rfl, hn, hn2, hA⟩ := hrel
        clear q0 q1
        have q0 : wr.cell? ⟨g1, 0, none⟩ = some (.int .u32 (s.1 : Int)) := (C1.out.below hA.2 C1.out.lt).cell 0 rfl
        have q1 : wr.cell? ⟨g1, 1, none⟩ = some (.int .u32 (s.2 : Int)) := (C1.out.below hA.2 C1.out.lt).cell 1 rfl
        have HA := Lib.hid hA
        have HLN := Lib.hid (show ((List.range n).filter (touches s)).length ≤ n from Nat.le_trans (List.length_filter_le _ _) (by simp))
        clear hA
        by_cases hlt : n ≤ z
        · have HE := Lib.hid (HS.out n hn hlt)
          have hi : (n : Int) ≤ z := by omega
          have hi64 : (n : Int) < 64 := by omega
          clear HS
          go_wp2_with (first
            | ((with_reducible show wpList _ _ _ _ _ wr); refine wpList_buildPt rfl _ rfl n rfl ?_; intro g7 u8 hk1 hb1 hg1; go_frame; have K8 := Lib.hid hk1; have B8 := Lib.hid hb1; clear hk1 hb1 hg1)
            | ((with_reducible show wpList _ _ _ _ _ u8); at_builtin; go_loud (refine wpList_appPt rfl _ _ rfl rfl (HA.out.below B8.out) g7 1 rfl n (by omega) K8.out (by have := HLN.out; omega) ?_); intro v9 u9 ho9; go_frame; have A9 := Lib.hid ho9; clear ho9)
            | fail)
          go_roundw
          case rel => exact ⟨n + 1, by go_num, by omega, by omega, by rw [HE.out]; exact A9.out⟩
          case measure => simp [RowKit.intOf]; omega
        · obtain rfl : n = z + 1 := by omega
          have hi : ¬ ((z + 1 : Nat) : Int) ≤ z := by omega
          clear HS
          go_wp2_with fail
          go_ret
          exact ⟨_, rfl, by rw [HF.out]; exact HA.out.old B1.out⟩
    · have e2 : 4096 < s.2 := by omega
      have HF := Lib.hid (show pagesP s = [] by rw [HPG.out, if_neg fun h => h2 h.2])
      clear HPG h1 h2
      go_enter Try.func22, Try.ntmps22
      go_wp2_with (first
        | ((with_reducible show wpList _ _ _ _ _ w); refine wpList_boxS rfl 25 _ rfl (spC s) rfl ?_; intro g1 w1 hk1 hb1 hg1; go_frame; have C1 := Lib.hid hk1; have B1 := Lib.hid hb1; have G1 := Lib.hid hg1; have q0 : w1.cell? ⟨g1, 0, none⟩ = some (.int .u32 (s.1 : Int)) := C1.out.cell 0 rfl; have q1 : w1.cell? ⟨g1, 1, none⟩ = some (.int .u32 (s.2 : Int)) := C1.out.cell 1 rfl; clear hk1 hb1 hg1)
        | fail)
      go_ret
      exact ⟨_, rfl, by rw [HF.out]; exact AppX.nil B1.out⟩
  · have e1 : s.2 ≤ s.1 := by omega
    have HF := Lib.hid (show pagesP s = [] by rw [HPG.out, if_neg fun h => h1 h.1])
    clear HPG h1
    go_enter Try.func22, Try.ntmps22
    go_wp2_with (first
      | ((with_reducible show wpList _ _ _ _ _ w); refine wpList_boxS rfl 25 _ rfl (spC s) rfl ?_; intro g1 w1 hk1 hb1 hg1; go_frame; have C1 := Lib.hid hk1; have B1 := Lib.hid hb1; have G1 := Lib.hid hg1; have q0 : w1.cell? ⟨g1, 0, none⟩ = some (.int .u32 (s.1 : Int)) := C1.out.cell 0 rfl; have q1 : w1.cell? ⟨g1, 1, none⟩ = some (.int .u32 (s.2 : Int)) := C1.out.cell 1 rfl; clear hk1 hb1 hg1)
      | fail)
    go_ret
    exact ⟨_, rfl, by rw [HF.out]; exact AppX.nil B1.out⟩

end Go.Proofs.Ythjcnijageiaiaa
