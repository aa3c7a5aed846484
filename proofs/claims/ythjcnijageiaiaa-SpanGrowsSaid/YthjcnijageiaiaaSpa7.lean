/- The reference: Pages, Add, Cut. -/
import Derived.Test.YthjcnijageiaiaaSpa5
import Derived.Test.YthjcnijageiaiaaSpa6
namespace Go.Proofs.Ythjcnijageiaiaa
open Go.RowKit Go.Shelf
set_option linter.unusedVariables false
set_option maxRecDepth 100000
set_option linter.unusedSimpArgs false

theorem pages_succ (s : Sp) (n : Nat) : (List.range (n + 1)).filter (touches s) = if touches s n then (List.range n).filter (touches s) ++ [n] else (List.range n).filter (touches s) := by
  rw [List.range_succ, List.filter_append]
  cases h : touches s n <;> simp [h]
theorem touch_yes {s : Sp} {n : Nat} (h1 : s.1 < (n + 1) * 64) (h2 : n * 64 < s.2) : touches s n = true := by simp [touches, h1, h2]
theorem touch_no {s : Sp} {n : Nat} (h : ¬ (s.1 < (n + 1) * 64 ∧ n * 64 < s.2)) : touches s n = false := by
  unfold touches
  rw [← Bool.not_eq_true]
  simpa using h
set_option maxHeartbeats 8000000 in
theorem PagesR_v (s : Sp) (w : World) (hs : s.1 < 4294967296 ∧ s.2 < 4294967296) :
    Calls Try.prog 23 #[.agg (spC s).toArray] w fun e w' => GivesX ptE (pagesP s) w e w' := by
  have HPG := Lib.hid (show pagesP s = if s.1 < s.2 ∧ s.2 ≤ 4096 then (List.range 64).filter (touches s) else [] from rfl)
  have HY := Lib.hid (fun n h1 h2 => touch_yes (s := s) (n := n) h1 h2)
  have HN := Lib.hid (fun n h => touch_no (s := s) (n := n) h)
  obtain ⟨h32, h33⟩ := hs
  by_cases h1 : s.1 < s.2
  · have e1 : ¬ s.2 ≤ s.1 := by omega
    by_cases h2 : s.2 ≤ 4096
    · have e2 : ¬ 4096 < s.2 := by omega
      have HF := Lib.hid (show pagesP s = (List.range 64).filter (touches s) by rw [HPG.out, if_pos ⟨h1, h2⟩])
      clear HPG h1
      go_enter Try.func23, Try.ntmps23
      go_wp2_with (first
        | ((with_reducible show wpList _ _ _ _ _ w); refine wpList_boxS rfl 25 _ rfl (spC s) rfl ?_; intro g1 w1 hk1 hb1 hg1; go_frame; have C1 := Lib.hid hk1; have B1 := Lib.hid hb1; have G1 := Lib.hid hg1; have q0 : w1.cell? ⟨g1, 0, none⟩ = some (.int .u32 (s.1 : Int)) := C1.out.cell 0 rfl; have q1 : w1.cell? ⟨g1, 1, none⟩ = some (.int .u32 (s.2 : Int)) := C1.out.cell 1 rfl; clear hk1 hb1 hg1)
        | fail)
      go_loopw [3, 4] (fun v j wr => ∃ n : Nat, j = .int .u32 (n : Int) ∧ n ≤ 64 ∧ AppX ptE w1 v ((List.range n).filter (touches s)) wr) (fun _ j _ => 64 - (RowKit.intOf j).toNat)
      case atStart => exact ⟨0, rfl, Nat.zero_le _, AppX.nil (Below.refl _ _)⟩
      case round =>
        obtain ⟨n, rfl, hn, hA⟩ := hrel
        clear q0 q1
        have q0 : wr.cell? ⟨g1, 0, none⟩ = some (.int .u32 (s.1 : Int)) := (C1.out.below hA.2 C1.out.lt).cell 0 rfl
        have q1 : wr.cell? ⟨g1, 1, none⟩ = some (.int .u32 (s.2 : Int)) := (C1.out.below hA.2 C1.out.lt).cell 1 rfl
        have HA := Lib.hid hA
        have HLN := Lib.hid (show ((List.range n).filter (touches s)).length ≤ 64 from Nat.le_trans (List.length_filter_le _ _) (by simpa using hn))
        by_cases hlt : n < 64
        · have hi : (n : Int) < 64 := by omega
          have HS := Lib.hid (pages_succ s n)
          clear hA
          by_cases k1 : s.1 < (n + 1) * 64
          · have f1 : (s.1 : Int) < ((n : Int) + 1) * 64 := by omega
            by_cases k2 : n * 64 < s.2
            · have f2 : (n : Int) * 64 < (s.2 : Int) := by omega
              have HE := Lib.hid (show (List.range (n + 1)).filter (touches s) = (List.range n).filter (touches s) ++ [n] by rw [HS.out, HY.out n k1 k2, if_pos rfl])
              clear HS HY HN k1 k2
              go_wp2_with (first
                | ((with_reducible show wpList _ _ _ _ _ wr); refine wpList_buildPt rfl _ rfl n rfl ?_; intro g7 u8 hk1 hb1 hg1; go_frame; have K8 := Lib.hid hk1; have B8 := Lib.hid hb1; clear hk1 hb1 hg1)
                | ((with_reducible show wpList _ _ _ _ _ u8); at_builtin; go_loud (refine wpList_appPt rfl _ _ rfl rfl (HA.out.below B8.out) g7 1 rfl n (by omega) K8.out (by have := HLN.out; omega) ?_); intro v9 u9 ho9; go_frame; have A9 := Lib.hid ho9; clear ho9)
                | fail)
              go_roundw
              case rel => exact ⟨n + 1, by go_num, hlt, by rw [HE.out]; exact A9.out⟩
              case measure => simp [RowKit.intOf]; omega
            · have f2 : ¬ (n : Int) * 64 < (s.2 : Int) := by omega
              have HE := Lib.hid (show (List.range (n + 1)).filter (touches s) = (List.range n).filter (touches s) by rw [HS.out, HN.out n fun h => k2 h.2, if_neg (by simp)])
              clear HS HY HN k1 k2
              go_wp2_with fail
              go_roundw
              case rel => exact ⟨n + 1, by go_num, hlt, by rw [HE.out]; exact HA.out⟩
              case measure => simp [RowKit.intOf]; omega
          · have f1 : ¬ (s.1 : Int) < ((n : Int) + 1) * 64 := by omega
            have HE := Lib.hid (show (List.range (n + 1)).filter (touches s) = (List.range n).filter (touches s) by rw [HS.out, HN.out n fun h => k1 h.1, if_neg (by simp)])
            clear HS HY HN k1
            go_wp2_with fail
            go_roundw
            case rel => exact ⟨n + 1, by go_num, hlt, by rw [HE.out]; exact HA.out⟩
            case measure => simp [RowKit.intOf]; omega
        · obtain rfl : n = 64 := by omega
          clear hA
          go_wp2_with fail
          go_ret
          exact ⟨_, rfl, by rw [HF.out]; exact HA.out.old B1.out⟩
    · have e2 : 4096 < s.2 := by omega
      have HF := Lib.hid (show pagesP s = [] by rw [HPG.out, if_neg fun h => h2 h.2])
      clear HPG h1 h2
      go_enter Try.func23, Try.ntmps23
      go_wp2_with (first
        | ((with_reducible show wpList _ _ _ _ _ w); refine wpList_boxS rfl 25 _ rfl (spC s) rfl ?_; intro g1 w1 hk1 hb1 hg1; go_frame; have C1 := Lib.hid hk1; have B1 := Lib.hid hb1; have G1 := Lib.hid hg1; have q0 : w1.cell? ⟨g1, 0, none⟩ = some (.int .u32 (s.1 : Int)) := C1.out.cell 0 rfl; have q1 : w1.cell? ⟨g1, 1, none⟩ = some (.int .u32 (s.2 : Int)) := C1.out.cell 1 rfl; clear hk1 hb1 hg1)
        | fail)
      go_ret
      exact ⟨_, rfl, by rw [HF.out]; exact AppX.nil B1.out⟩
  · have e1 : s.2 ≤ s.1 := by omega
    have HF := Lib.hid (show pagesP s = [] by rw [HPG.out, if_neg fun h => h1 h.1])
    clear HPG h1
    go_enter Try.func23, Try.ntmps23
    go_wp2_with (first
      | ((with_reducible show wpList _ _ _ _ _ w); refine wpList_boxS rfl 25 _ rfl (spC s) rfl ?_; intro g1 w1 hk1 hb1 hg1; go_frame; have C1 := Lib.hid hk1; have B1 := Lib.hid hb1; have G1 := Lib.hid hg1; have q0 : w1.cell? ⟨g1, 0, none⟩ = some (.int .u32 (s.1 : Int)) := C1.out.cell 0 rfl; have q1 : w1.cell? ⟨g1, 1, none⟩ = some (.int .u32 (s.2 : Int)) := C1.out.cell 1 rfl; clear hk1 hb1 hg1)
      | fail)
    go_ret
    exact ⟨_, rfl, by rw [HF.out]; exact AppX.nil B1.out⟩

/-- what Add, what Cut answers -/
def DidSp (P : List Sp → Sp → List Sp → Prop) (l : List Sp) (s : Sp) (w : World) (e : Ending) (w' : World) : Prop :=
  (mayS l = true ∧ s.1 ≤ s.2 ∧ ∃ v r, e = .returned (.tuple #[v, .int .i64 0]) ∧ P l s r ∧ r.length ≤ 2 * l.length + 2 ∧ AppX spE w v r w') ∨
  (¬ (mayS l = true ∧ s.1 ≤ s.2) ∧ e = .returned (.tuple #[.slice none 0 0, .int .i64 2]) ∧ Below w.heap.size w w')
set_option maxHeartbeats 8000000 in
theorem AddR_v (l : List Sp) (s : Sp) (A : Option Addr) (c : Nat) (F : Nat → Prop) (w : World) (hl : l.length ≤ 100000000) (hs : s.1 < 4294967296 ∧ s.2 < 4294967296) (r : RdX spE w F A l) (hF : ∀ k, F k → k < w.heap.size) (hA : A = none → l = [] ∧ c = 0) :
    Calls Try.prog 9 #[.slice A l.length c, .agg (spC s).toArray] w fun e w' => DidSp AddOf l s w e w' := by
  have HM := Lib.hid fun (u : World) (hb : Below w.heap.size w u) => MayR_v l A c F u (by omega) (r.below hb)
  have HS := Lib.hid fun (u : World) (hb : Below w.heap.size w u) => setR_v l s true A c F u hl hs (r.below hb) (fun k hk => Nat.lt_of_lt_of_le (hF k hk) hb.size) hA
  clear r hs hF hA
  go_enter Try.func9, Try.ntmps9
  go_wp2_with (first
    | ((with_reducible show wpList _ _ _ _ _ w); refine wpList_boxS rfl 25 _ rfl (spC s) rfl ?_; intro g1 w1 hk1 hb1 hg1; go_frame; have C1 := Lib.hid hk1; have B1 := Lib.hid hb1; have G1 := Lib.hid hg1; clear hk1 hb1 hg1)
    | fail)
  refine (HM.out _ B1.out).mono ?_
  rintro e w2 ⟨rfl, hb⟩
  have B2 := Lib.hid (below_chain B1.out hb)
  have C2 := Lib.hid (C1.out.below hb C1.out.lt)
  clear hb
  have q0 : w2.cell? ⟨g1, 0, none⟩ = some (.int .u32 (s.1 : Int)) := C2.out.cell 0 rfl
  have q1 : w2.cell? ⟨g1, 1, none⟩ = some (.int .u32 (s.2 : Int)) := C2.out.cell 1 rfl
  cases hm : mayS l
  · have HF := Lib.hid (show ¬ (mayS l = true ∧ s.1 ≤ s.2) from fun h => by rw [hm] at h; cases h.1)
    clear hm
    go_wp2_with fail
    go_ret2
    exact .inr ⟨HF.out, rfl, B2.out⟩
  · have HMM := Lib.hid hm
    clear hm
    by_cases hs : s.1 ≤ s.2
    · have e1 : ¬ s.2 < s.1 := by omega
      go_wp2_with (first
        | ((with_reducible show wpList _ _ _ _ _ w2); refine wpList_loadS rfl 25 _ rfl g1 rfl (spC s) C2.out _ Try.underlying25 rfl infoSpan ?_; go_frame)
        | fail)
      refine (HS.out _ B2.out).mono ?_
      rintro e w3 ⟨v, r, rfl, h1, h2, h3, h4⟩
      have H1 := Lib.hid h1
      have H2 := Lib.hid (show ∀ x, memS r x = (memS l x || inS s x) from h2)
      have H3 := Lib.hid h3
      have H4 := Lib.hid (h4.old B2.out)
      clear h1 h2 h3 h4
      go_wp2_with fail
      go_ret2
      exact .inl ⟨HMM.out, hs, _, r, rfl, ⟨H1.out, H2.out⟩, H3.out, H4.out⟩
    · have e1 : s.2 < s.1 := by omega
      go_wp2_with fail
      go_ret2
      exact .inr ⟨fun h => hs h.2, rfl, B2.out⟩
set_option maxHeartbeats 8000000 in
theorem CutR_v (l : List Sp) (s : Sp) (A : Option Addr) (c : Nat) (F : Nat → Prop) (w : World) (hl : l.length ≤ 100000000) (hs : s.1 < 4294967296 ∧ s.2 < 4294967296) (r : RdX spE w F A l) (hF : ∀ k, F k → k < w.heap.size) (hA : A = none → l = [] ∧ c = 0) :
    Calls Try.prog 11 #[.slice A l.length c, .agg (spC s).toArray] w fun e w' => DidSp CutOf l s w e w' := by
  have HM := Lib.hid fun (u : World) (hb : Below w.heap.size w u) => MayR_v l A c F u (by omega) (r.below hb)
  have HS := Lib.hid fun (u : World) (hb : Below w.heap.size w u) => setR_v l s false A c F u hl hs (r.below hb) (fun k hk => Nat.lt_of_lt_of_le (hF k hk) hb.size) hA
  clear r hs hF hA
  go_enter Try.func11, Try.ntmps11
  go_wp2_with (first
    | ((with_reducible show wpList _ _ _ _ _ w); refine wpList_boxS rfl 25 _ rfl (spC s) rfl ?_; intro g1 w1 hk1 hb1 hg1; go_frame; have C1 := Lib.hid hk1; have B1 := Lib.hid hb1; have G1 := Lib.hid hg1; clear hk1 hb1 hg1)
    | fail)
  refine (HM.out _ B1.out).mono ?_
  rintro e w2 ⟨rfl, hb⟩
  have B2 := Lib.hid (below_chain B1.out hb)
  have C2 := Lib.hid (C1.out.below hb C1.out.lt)
  clear hb
  have q0 : w2.cell? ⟨g1, 0, none⟩ = some (.int .u32 (s.1 : Int)) := C2.out.cell 0 rfl
  have q1 : w2.cell? ⟨g1, 1, none⟩ = some (.int .u32 (s.2 : Int)) := C2.out.cell 1 rfl
  cases hm : mayS l
  · have HF := Lib.hid (show ¬ (mayS l = true ∧ s.1 ≤ s.2) from fun h => by rw [hm] at h; cases h.1)
    clear hm
    go_wp2_with fail
    go_ret2
    exact .inr ⟨HF.out, rfl, B2.out⟩
  · have HMM := Lib.hid hm
    clear hm
    by_cases hs : s.1 ≤ s.2
    · have e1 : ¬ s.2 < s.1 := by omega
      go_wp2_with (first
        | ((with_reducible show wpList _ _ _ _ _ w2); refine wpList_loadS rfl 25 _ rfl g1 rfl (spC s) C2.out _ Try.underlying25 rfl infoSpan ?_; go_frame)
        | fail)
      refine (HS.out _ B2.out).mono ?_
      rintro e w3 ⟨v, r, rfl, h1, h2, h3, h4⟩
      have H1 := Lib.hid h1
      have H2 := Lib.hid (show ∀ x, memS r x = (memS l x && !inS s x) from h2)
      have H3 := Lib.hid h3
      have H4 := Lib.hid (h4.old B2.out)
      clear h1 h2 h3 h4
      go_wp2_with fail
      go_ret2
      exact .inl ⟨HMM.out, hs, _, r, rfl, ⟨H1.out, H2.out⟩, H3.out, H4.out⟩
    · have e1 : s.2 < s.1 := by omega
      go_wp2_with fail
      go_ret2
      exact .inr ⟨fun h => hs h.2, rfl, B2.out⟩

end Go.Proofs.Ythjcnijageiaiaa
