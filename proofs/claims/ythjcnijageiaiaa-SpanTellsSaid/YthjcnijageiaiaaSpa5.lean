/- The reference: the spans of a set, with a span or without it. -/
import Derived.Test.YthjcnijageiaiaaSpa4
namespace Go.Proofs.Ythjcnijageiaiaa
open Go.RowKit Go.Shelf
set_option linter.unusedVariables false
set_option maxRecDepth 100000
set_option linter.unusedSimpArgs false

/-- spans of all places that are kept -/
def GivesZ (l : List Sp) (s : Sp) (b : Bool) (w : World) (e : Ending) (w' : World) : Prop := ∃ v r, e = .returned v ∧ mayS r = true ∧ (∀ x, memS r x = keepZ l s b x) ∧ r.length ≤ 2 * l.length + 2 ∧ AppX spE w v r w'
theorem keep_yes {l : List Sp} {s : Sp} {b : Bool} {x : Nat} (m i : Bool) (hm : memS l x = m) (hi : inS s x = i) : keepZ l s b x = (if b then m || i else m && !i) := by
  unfold keepZ
  rw [hm, hi]
theorem in_true {s : Sp} {x : Nat} (h1 : s.1 ≤ x) (h2 : x < s.2) : inS s x = true := (inS_iff s x).2 ⟨h1, h2⟩
theorem in_false {s : Sp} {x : Nat} (h : ¬ (s.1 ≤ x ∧ x < s.2)) : inS s x = false := by
  cases e : inS s x
  · rfl
  · exact absurd ((inS_iff s x).1 e) h
set_option maxHeartbeats 16000000 in
theorem setR_v (l : List Sp) (s : Sp) (b : Bool) (A : Option Addr) (c : Nat) (F : Nat → Prop) (w : World) (hl : l.length ≤ 100000000) (hs : s.1 < 4294967296 ∧ s.2 < 4294967296) (r : RdX spE w F A l) (hF : ∀ k, F k → k < w.heap.size) (hA : A = none → l = [] ∧ c = 0) :
    Calls Try.prog 26 #[.slice A l.length c, .agg (spC s).toArray, .bool b] w fun e w' => GivesZ l s b w e w' := by
  have HIN := Lib.hid fun (x : Nat) (u : World) (hb : Below w.heap.size w u) => inR_v l x A c F u (by omega) (r.below hb)
  have HEN := Lib.hid fun (u : World) (hb : Below w.heap.size w u) => endsR_v l s A c F u hl hs (r.below hb) (fun k hk => Nat.lt_of_lt_of_le (hF k hk) hb.size) hA
  have HLE := Lib.hid (show (endsZ l s).length ≤ 2 * (l.length + 1) from endsF_len (s :: l))
  have hle : ((endsZ l s).length : Int) ≤ 300000000 := by have := HLE.out; omega
  have HST := Lib.hid (SetI.start (l := l) (s := s) (b := b))
  clear r hs hA hF
  go_enter Try.func26, Try.ntmps26
  go_wp2_with (first
    | ((with_reducible show wpList _ _ _ _ _ w); refine wpList_boxS rfl 25 _ rfl (spC s) rfl ?_; intro g1 w1 hk1 hb1 hg1; go_frame; have C1 := Lib.hid hk1; have B1 := Lib.hid hb1; have G1 := Lib.hid hg1; clear hk1 hb1 hg1)
    | ((with_reducible show wpList _ _ _ _ _ w1); refine wpList_loadS rfl 25 _ rfl g1 rfl (spC s) C1.out _ Try.underlying25 rfl infoSpan ?_; go_frame)
    | fail)
  refine (HEN.out _ B1.out).mono ?_
  rintro e w2 ⟨ve, rfl, he⟩
  obtain ⟨Ae, ce, rfl, hre⟩ := he.form
  have RE := Lib.hid hre
  have B2 := Lib.hid (below_chain B1.out he.2)
  have C2 := Lib.hid (C1.out.below he.2 C1.out.lt)
  clear he hre
  go_wp2_with fail
  go_loopw [8, 9] (fun v j wr => ∃ (k : Nat) (o : List Sp), j = .int .i64 k ∧ SetI (keepZ l s b) (endsZ l s) k o ∧ o.length ≤ k ∧ AppX spE w2 v o wr) (fun _ j _ => (endsZ l s).length - (RowKit.intOf j).toNat)
  case atStart => exact ⟨0, [], rfl, HST.out, Nat.le_refl _, AppX.nil (Below.refl _ _)⟩
  case round =>
    obtain ⟨k, o, rfl, hI, hok, hA⟩ := hrel
    have hb2 := hA.2
    have hk0 : k < (endsZ l s).length := hI.1
    have C3 := Lib.hid (C2.out.below hb2 C2.out.lt)
    have q0 : wr.cell? ⟨g1, 0, none⟩ = some (.int .u32 (s.1 : Int)) := C3.out.cell 0 rfl
    have q1 : wr.cell? ⟨g1, 1, none⟩ = some (.int .u32 (s.2 : Int)) := C3.out.cell 1 rfl
    by_cases hk : k + 1 < (endsZ l s).length
    · obtain ⟨be, oe, rfl, hc1, hx1⟩ := pt_at (RE.out.below hb2) k (by omega)
      obtain ⟨be', oe', e', hc2, hx2⟩ := pt_at (RE.out.below hb2) (k + 1) hk
      cases e'
      have HSK := Lib.hid (fun hf => hI.skip hk hf)
      have HAP := Lib.hid (fun hf h => hI.app hk hf h)
      have HME := Lib.hid (show ∀ q x y, o = q ++ [(x, y)] → keepZ l s b ((endsZ l s)[k]'hk0) = true → y = (endsZ l s)[k]'hk0 → SetI (keepZ l s b) (endsZ l s) (k + 1) (q ++ [(x, (endsZ l s)[k + 1]'hk)]) from fun q x y e hf hy => by subst e; exact SetI.merge hI hk hf hy)
      have HKY := Lib.hid (fun m i (hm : memS l ((endsZ l s)[k]'hk0) = m) (hi : inS s ((endsZ l s)[k]'hk0) = i) => keep_yes (l := l) (s := s) (b := b) (x := (endsZ l s)[k]'hk0) m i hm hi)
      have HI2 := Lib.hid (fun (u : World) hb => HIN.out ((endsZ l s)[k]'hk0) u hb)
      have HT := Lib.hid (fun h1 h2 => in_true (s := s) (x := (endsZ l s)[k]'hk0) h1 h2)
      have HFa := Lib.hid (fun h => in_false (s := s) (x := (endsZ l s)[k]'hk0) h)
      generalize (endsZ l s)[k] = a1 at *
      generalize (endsZ l s)[k + 1] = a2 at *
      obtain ⟨s1, s2⟩ := s
      dsimp only at *
      have HA := Lib.hid hA
      have HB := Lib.hid hb2
      have H2 := Lib.hid hx2
      have H1 := Lib.hid hx1
      have HOK := Lib.hid hok
      clear hI hA hb2 hx1 hx2 hok hk0
      generalize hm : memS l a1 = m at *
      have HI3 := Lib.hid (HI2.out _ (below_chain B2.out HB.out))
      clear hm
      by_cases h1 : s1 ≤ a1
      · by_cases h2 : a1 < s2
        · have HOW := Lib.hid (HT.out h1 h2)
          have e1 : (s1 : Int) ≤ a1 := by omega
          have e2 : (a1 : Int) < s2 := by omega
          clear HT HFa
          cases b
          · have HKE := Lib.hid (HKY.out m true rfl HOW.out)
            simp only [Bool.not_true, Bool.and_false, Bool.false_eq_true, if_false] at HKE
            go_wp2_with fail
            go_roundw
            case rel => exact ⟨k + 1, o, by go_num, HSK.out HKE.out, Nat.le_succ_of_le HOK.out, HA.out⟩
            case measure => simp [RowKit.intOf]; omega
          · have HKE := Lib.hid (HKY.out m true rfl HOW.out)
            simp only [Bool.or_true, if_true] at HKE
            rcases List.eq_nil_or_concat o with rfl | ⟨q, ⟨x, y⟩, rfl⟩
            · obtain ⟨A8, c8, rfl, -⟩ := HA.out.form
              have HSI := Lib.hid (HAP.out HKE.out (fun q t e => by simp at e))
              clear HAP HME HSK
              go_wp2_with (first
                | ((with_reducible show wpList _ _ _ _ _ wr); refine wpList_buildSp rfl _ rfl (a1, a2) rfl ?_; intro g7 u8 hk1 hb1 hg1; go_frame; have K8 := Lib.hid hk1; have B8 := Lib.hid hb1; clear hk1 hb1 hg1)
                | ((with_reducible show wpList _ _ _ _ _ u8); at_builtin; go_loud (refine wpList_appSp rfl _ _ rfl rfl (HA.out.below B8.out) g7 1 rfl (a1, a2) ⟨H1.out, H2.out⟩ K8.out (by simp) ?_); intro v9 u9 ho9; go_frame; have A9 := Lib.hid ho9; clear ho9)
                | fail)
              go_roundw
              case rel => exact ⟨k + 1, _, by go_num, HSI.out, by simp, A9.out⟩
              case measure => simp [RowKit.intOf]; omega
            · rw [List.concat_eq_append] at *
              obtain ⟨g8, c8, rfl, hy8⟩ := HA.out.last
              have HQL := Lib.hid (show q.length + 1 ≤ k by have := HOK.out; simpa using this)
              have hq0 : (0 : Int) < (q.length : Int) + 1 := by omega
              have hq9 : (q.length : Int) ≤ 300000000 := by have := HQL.out; omega
              dsimp only at hy8
              by_cases hy : y = a1
              · subst hy
                have HSI := Lib.hid (HME.out q x y rfl HKE.out rfl)
                clear HAP HME HSK
                go_wp2_with (first
                  | ((with_reducible show wpList _ _ _ _ _ wr); refine wpList_endSp rfl _ _ rfl HA.out rfl rfl H2.out ?_; intro u9 ho9; go_frame; have A9 := Lib.hid ho9; clear ho9)
                  | fail)
                go_roundw
                case rel => exact ⟨k + 1, _, by go_num, HSI.out, by have := HQL.out; simp; omega, A9.out⟩
                case measure => simp [RowKit.intOf]; omega
              · have HSI := Lib.hid (HAP.out HKE.out (fun q' t e => by
                  have := List.append_inj_right' e rfl
                  simp at this
                  subst this
                  exact hy))
                have e9 : ¬ (y : Int) = a1 := by omega
                clear HAP HME HSK
                go_wp2_with (first
                  | ((with_reducible show wpList _ _ _ _ _ wr); refine wpList_buildSp rfl _ rfl (a1, a2) rfl ?_; intro g7 u8 hk1 hb1 hg1; go_frame; have K8 := Lib.hid hk1; have B8 := Lib.hid hb1; clear hk1 hb1 hg1)
                  | ((with_reducible show wpList _ _ _ _ _ u8); at_builtin; go_loud (refine wpList_appSp rfl _ _ rfl rfl (HA.out.below B8.out) g7 1 rfl (a1, a2) ⟨H1.out, H2.out⟩ K8.out (by have := HQL.out; simp; omega) ?_); intro v9 u9 ho9; go_frame; have A9 := Lib.hid ho9; clear ho9)
                  | fail)
                go_roundw
                case rel => exact ⟨k + 1, _, by go_num, HSI.out, by have := HQL.out; simp; omega, A9.out⟩
                case measure => simp [RowKit.intOf]; omega
        · have HOW := Lib.hid (HFa.out fun h => h2 h.2)
          have e1 : (s1 : Int) ≤ a1 := by omega
          have e2 : ¬ (a1 : Int) < s2 := by omega
          clear HT HFa
          cases b
          · cases m
            · have HKE := Lib.hid (HKY.out false false rfl HOW.out)
              simp only [Bool.false_and, Bool.or_false, Bool.false_eq_true, if_false, if_true] at HKE
              go_wp2_with fail
              refine HI3.out.mono ?_
              rintro e u1 ⟨rfl, hb⟩
              have HA1 := Lib.hid (HA.out.below hb)
              have HB1 := Lib.hid (below_chain HB.out hb)
              have r1 := hb.cell (lt_of_cell hc1) |>.trans hc1
              have r2 := hb.cell (lt_of_cell hc2) |>.trans hc2
              clear hb
              go_wp2_with fail
              go_roundw
              case rel => exact ⟨k + 1, o, by go_num, HSK.out HKE.out, Nat.le_succ_of_le HOK.out, HA1.out⟩
              case measure => simp [RowKit.intOf]; omega
            · have HKE := Lib.hid (HKY.out true false rfl HOW.out)
              simp only [Bool.not_false, Bool.and_true, Bool.or_false, Bool.false_eq_true, if_false, if_true] at HKE
              go_wp2_with fail
              refine HI3.out.mono ?_
              rintro e u1 ⟨rfl, hb⟩
              have HA1 := Lib.hid (HA.out.below hb)
              have HB1 := Lib.hid (below_chain HB.out hb)
              have r1 := hb.cell (lt_of_cell hc1) |>.trans hc1
              have r2 := hb.cell (lt_of_cell hc2) |>.trans hc2
              clear hb
              rcases List.eq_nil_or_concat o with rfl | ⟨q, ⟨x, y⟩, rfl⟩
              · obtain ⟨A8, c8, rfl, -⟩ := HA1.out.form
                have HSI := Lib.hid (HAP.out HKE.out (fun q t e => by simp at e))
                clear HAP HME HSK
                go_wp2_with (first
                  | ((with_reducible show wpList _ _ _ _ _ u1); refine wpList_buildSp rfl _ rfl (a1, a2) rfl ?_; intro g7 u8 hk1 hb1 hg1; go_frame; have K8 := Lib.hid hk1; have B8 := Lib.hid hb1; clear hk1 hb1 hg1)
                  | ((with_reducible show wpList _ _ _ _ _ u8); at_builtin; go_loud (refine wpList_appSp rfl _ _ rfl rfl (HA1.out.below B8.out) g7 1 rfl (a1, a2) ⟨H1.out, H2.out⟩ K8.out (by simp) ?_); intro v9 u9 ho9; go_frame; have A9 := Lib.hid ho9; clear ho9)
                  | fail)
                go_roundw
                case rel => exact ⟨k + 1, _, by go_num, HSI.out, by simp, A9.out⟩
                case measure => simp [RowKit.intOf]; omega
              · rw [List.concat_eq_append] at *
                obtain ⟨g8, c8, rfl, hy8⟩ := HA1.out.last
                have HQL := Lib.hid (show q.length + 1 ≤ k by have := HOK.out; simpa using this)
                have hq0 : (0 : Int) < (q.length : Int) + 1 := by omega
                have hq9 : (q.length : Int) ≤ 300000000 := by have := HQL.out; omega
                dsimp only at hy8
                by_cases hy : y = a1
                · subst hy
                  have HSI := Lib.hid (HME.out q x y rfl HKE.out rfl)
                  clear HAP HME HSK
                  go_wp2_with (first
                    | ((with_reducible show wpList _ _ _ _ _ u1); refine wpList_endSp rfl _ _ rfl HA1.out rfl rfl H2.out ?_; intro u9 ho9; go_frame; have A9 := Lib.hid ho9; clear ho9)
                    | fail)
                  go_roundw
                  case rel => exact ⟨k + 1, _, by go_num, HSI.out, by have := HQL.out; simp; omega, A9.out⟩
                  case measure => simp [RowKit.intOf]; omega
                · have HSI := Lib.hid (HAP.out HKE.out (fun q' t e => by
                    have := List.append_inj_right' e rfl
                    simp at this
                    subst this
                    exact hy))
                  have e9 : ¬ (y : Int) = a1 := by omega
                  clear HAP HME HSK
                  go_wp2_with (first
                    | ((with_reducible show wpList _ _ _ _ _ u1); refine wpList_buildSp rfl _ rfl (a1, a2) rfl ?_; intro g7 u8 hk1 hb1 hg1; go_frame; have K8 := Lib.hid hk1; have B8 := Lib.hid hb1; clear hk1 hb1 hg1)
                    | ((with_reducible show wpList _ _ _ _ _ u8); at_builtin; go_loud (refine wpList_appSp rfl _ _ rfl rfl (HA1.out.below B8.out) g7 1 rfl (a1, a2) ⟨H1.out, H2.out⟩ K8.out (by have := HQL.out; simp; omega) ?_); intro v9 u9 ho9; go_frame; have A9 := Lib.hid ho9; clear ho9)
                    | fail)
                  go_roundw
                  case rel => exact ⟨k + 1, _, by go_num, HSI.out, by have := HQL.out; simp; omega, A9.out⟩
                  case measure => simp [RowKit.intOf]; omega
          · cases m
            · have HKE := Lib.hid (HKY.out false false rfl HOW.out)
              simp only [Bool.false_and, Bool.or_false, Bool.false_eq_true, if_false, if_true] at HKE
              go_wp2_with fail
              refine HI3.out.mono ?_
              rintro e u1 ⟨rfl, hb⟩
              have HA1 := Lib.hid (HA.out.below hb)
              have HB1 := Lib.hid (below_chain HB.out hb)
              have r1 := hb.cell (lt_of_cell hc1) |>.trans hc1
              have r2 := hb.cell (lt_of_cell hc2) |>.trans hc2
              clear hb
              go_wp2_with fail
              go_roundw
              case rel => exact ⟨k + 1, o, by go_num, HSK.out HKE.out, Nat.le_succ_of_le HOK.out, HA1.out⟩
              case measure => simp [RowKit.intOf]; omega
            · have HKE := Lib.hid (HKY.out true false rfl HOW.out)
              simp only [Bool.not_false, Bool.and_true, Bool.or_false, Bool.false_eq_true, if_false, if_true] at HKE
              go_wp2_with fail
              refine HI3.out.mono ?_
              rintro e u1 ⟨rfl, hb⟩
              have HA1 := Lib.hid (HA.out.below hb)
              have HB1 := Lib.hid (below_chain HB.out hb)
              have r1 := hb.cell (lt_of_cell hc1) |>.trans hc1
              have r2 := hb.cell (lt_of_cell hc2) |>.trans hc2
              clear hb
              rcases List.eq_nil_or_concat o with rfl | ⟨q, ⟨x, y⟩, rfl⟩
              · obtain ⟨A8, c8, rfl, -⟩ := HA1.out.form
                have HSI := Lib.hid (HAP.out HKE.out (fun q t e => by simp at e))
                clear HAP HME HSK
                go_wp2_with (first
                  | ((with_reducible show wpList _ _ _ _ _ u1); refine wpList_buildSp rfl _ rfl (a1, a2) rfl ?_; intro g7 u8 hk1 hb1 hg1; go_frame; have K8 := Lib.hid hk1; have B8 := Lib.hid hb1; clear hk1 hb1 hg1)
                  | ((with_reducible show wpList _ _ _ _ _ u8); at_builtin; go_loud (refine wpList_appSp rfl _ _ rfl rfl (HA1.out.below B8.out) g7 1 rfl (a1, a2) ⟨H1.out, H2.out⟩ K8.out (by simp) ?_); intro v9 u9 ho9; go_frame; have A9 := Lib.hid ho9; clear ho9)
                  | fail)
                go_roundw
                case rel => exact ⟨k + 1, _, by go_num, HSI.out, by simp, A9.out⟩
                case measure => simp [RowKit.intOf]; omega
              · rw [List.concat_eq_append] at *
                obtain ⟨g8, c8, rfl, hy8⟩ := HA1.out.last
                have HQL := Lib.hid (show q.length + 1 ≤ k by have := HOK.out; simpa using this)
                have hq0 : (0 : Int) < (q.length : Int) + 1 := by omega
                have hq9 : (q.length : Int) ≤ 300000000 := by have := HQL.out; omega
                dsimp only at hy8
                by_cases hy : y = a1
                · subst hy
                  have HSI := Lib.hid (HME.out q x y rfl HKE.out rfl)
                  clear HAP HME HSK
                  go_wp2_with (first
                    | ((with_reducible show wpList _ _ _ _ _ u1); refine wpList_endSp rfl _ _ rfl HA1.out rfl rfl H2.out ?_; intro u9 ho9; go_frame; have A9 := Lib.hid ho9; clear ho9)
                    | fail)
                  go_roundw
                  case rel => exact ⟨k + 1, _, by go_num, HSI.out, by have := HQL.out; simp; omega, A9.out⟩
                  case measure => simp [RowKit.intOf]; omega
                · have HSI := Lib.hid (HAP.out HKE.out (fun q' t e => by
                    have := List.append_inj_right' e rfl
                    simp at this
                    subst this
                    exact hy))
                  have e9 : ¬ (y : Int) = a1 := by omega
                  clear HAP HME HSK
                  go_wp2_with (first
                    | ((with_reducible show wpList _ _ _ _ _ u1); refine wpList_buildSp rfl _ rfl (a1, a2) rfl ?_; intro g7 u8 hk1 hb1 hg1; go_frame; have K8 := Lib.hid hk1; have B8 := Lib.hid hb1; clear hk1 hb1 hg1)
                    | ((with_reducible show wpList _ _ _ _ _ u8); at_builtin; go_loud (refine wpList_appSp rfl _ _ rfl rfl (HA1.out.below B8.out) g7 1 rfl (a1, a2) ⟨H1.out, H2.out⟩ K8.out (by have := HQL.out; simp; omega) ?_); intro v9 u9 ho9; go_frame; have A9 := Lib.hid ho9; clear ho9)
                    | fail)
                  go_roundw
                  case rel => exact ⟨k + 1, _, by go_num, HSI.out, by have := HQL.out; simp; omega, A9.out⟩
                  case measure => simp [RowKit.intOf]; omega
      · have HOW := Lib.hid (HFa.out fun h => h1 h.1)
        have e1 : ¬ (s1 : Int) ≤ a1 := by omega
        clear HT HFa
        cases b
        · cases m
          · have HKE := Lib.hid (HKY.out false false rfl HOW.out)
            simp only [Bool.false_and, Bool.or_false, Bool.false_eq_true, if_false, if_true] at HKE
            go_wp2_with fail
            refine HI3.out.mono ?_
            rintro e u1 ⟨rfl, hb⟩
            have HA1 := Lib.hid (HA.out.below hb)
            have HB1 := Lib.hid (below_chain HB.out hb)
            have r1 := hb.cell (lt_of_cell hc1) |>.trans hc1
            have r2 := hb.cell (lt_of_cell hc2) |>.trans hc2
            clear hb
            go_wp2_with fail
            go_roundw
            case rel => exact ⟨k + 1, o, by go_num, HSK.out HKE.out, Nat.le_succ_of_le HOK.out, HA1.out⟩
            case measure => simp [RowKit.intOf]; omega
          · have HKE := Lib.hid (HKY.out true false rfl HOW.out)
            simp only [Bool.not_false, Bool.and_true, Bool.or_false, Bool.false_eq_true, if_false, if_true] at HKE
            go_wp2_with fail
            refine HI3.out.mono ?_
            rintro e u1 ⟨rfl, hb⟩
            have HA1 := Lib.hid (HA.out.below hb)
            have HB1 := Lib.hid (below_chain HB.out hb)
            have r1 := hb.cell (lt_of_cell hc1) |>.trans hc1
            have r2 := hb.cell (lt_of_cell hc2) |>.trans hc2
            clear hb
            rcases List.eq_nil_or_concat o with rfl | ⟨q, ⟨x, y⟩, rfl⟩
            · obtain ⟨A8, c8, rfl, -⟩ := HA1.out.form
              have HSI := Lib.hid (HAP.out HKE.out (fun q t e => by simp at e))
              clear HAP HME HSK
              go_wp2_with (first
                | ((with_reducible show wpList _ _ _ _ _ u1); refine wpList_buildSp rfl _ rfl (a1, a2) rfl ?_; intro g7 u8 hk1 hb1 hg1; go_frame; have K8 := Lib.hid hk1; have B8 := Lib.hid hb1; clear hk1 hb1 hg1)
                | ((with_reducible show wpList _ _ _ _ _ u8); at_builtin; go_loud (refine wpList_appSp rfl _ _ rfl rfl (HA1.out.below B8.out) g7 1 rfl (a1, a2) ⟨H1.out, H2.out⟩ K8.out (by simp) ?_); intro v9 u9 ho9; go_frame; have A9 := Lib.hid ho9; clear ho9)
                | fail)
              go_roundw
              case rel => exact ⟨k + 1, _, by go_num, HSI.out, by simp, A9.out⟩
              case measure => simp [RowKit.intOf]; omega
            · rw [List.concat_eq_append] at *
              obtain ⟨g8, c8, rfl, hy8⟩ := HA1.out.last
              have HQL := Lib.hid (show q.length + 1 ≤ k by have := HOK.out; simpa using this)
              have hq0 : (0 : Int) < (q.length : Int) + 1 := by omega
              have hq9 : (q.length : Int) ≤ 300000000 := by have := HQL.out; omega
              dsimp only at hy8
              by_cases hy : y = a1
              · subst hy
                have HSI := Lib.hid (HME.out q x y rfl HKE.out rfl)
                clear HAP HME HSK
                go_wp2_with (first
                  | ((with_reducible show wpList _ _ _ _ _ u1); refine wpList_endSp rfl _ _ rfl HA1.out rfl rfl H2.out ?_; intro u9 ho9; go_frame; have A9 := Lib.hid ho9; clear ho9)
                  | fail)
                go_roundw
                case rel => exact ⟨k + 1, _, by go_num, HSI.out, by have := HQL.out; simp; omega, A9.out⟩
                case measure => simp [RowKit.intOf]; omega
              · have HSI := Lib.hid (HAP.out HKE.out (fun q' t e => by
                  have := List.append_inj_right' e rfl
                  simp at this
                  subst this
                  exact hy))
                have e9 : ¬ (y : Int) = a1 := by omega
                clear HAP HME HSK
                go_wp2_with (first
                  | ((with_reducible show wpList _ _ _ _ _ u1); refine wpList_buildSp rfl _ rfl (a1, a2) rfl ?_; intro g7 u8 hk1 hb1 hg1; go_frame; have K8 := Lib.hid hk1; have B8 := Lib.hid hb1; clear hk1 hb1 hg1)
                  | ((with_reducible show wpList _ _ _ _ _ u8); at_builtin; go_loud (refine wpList_appSp rfl _ _ rfl rfl (HA1.out.below B8.out) g7 1 rfl (a1, a2) ⟨H1.out, H2.out⟩ K8.out (by have := HQL.out; simp; omega) ?_); intro v9 u9 ho9; go_frame; have A9 := Lib.hid ho9; clear ho9)
                  | fail)
                go_roundw
                case rel => exact ⟨k + 1, _, by go_num, HSI.out, by have := HQL.out; simp; omega, A9.out⟩
                case measure => simp [RowKit.intOf]; omega
        · cases m
          · have HKE := Lib.hid (HKY.out false false rfl HOW.out)
            simp only [Bool.false_and, Bool.or_false, Bool.false_eq_true, if_false, if_true] at HKE
            go_wp2_with fail
            refine HI3.out.mono ?_
            rintro e u1 ⟨rfl, hb⟩
            have HA1 := Lib.hid (HA.out.below hb)
            have HB1 := Lib.hid (below_chain HB.out hb)
            have r1 := hb.cell (lt_of_cell hc1) |>.trans hc1
            have r2 := hb.cell (lt_of_cell hc2) |>.trans hc2
            clear hb
            go_wp2_with fail
            go_roundw
            case rel => exact ⟨k + 1, o, by go_num, HSK.out HKE.out, Nat.le_succ_of_le HOK.out, HA1.out⟩
            case measure => simp [RowKit.intOf]; omega
          · have HKE := Lib.hid (HKY.out true false rfl HOW.out)
            simp only [Bool.not_false, Bool.and_true, Bool.or_false, Bool.false_eq_true, if_false, if_true] at HKE
            go_wp2_with fail
            refine HI3.out.mono ?_
            rintro e u1 ⟨rfl, hb⟩
            have HA1 := Lib.hid (HA.out.below hb)
            have HB1 := Lib.hid (below_chain HB.out hb)
            have r1 := hb.cell (lt_of_cell hc1) |>.trans hc1
            have r2 := hb.cell (lt_of_cell hc2) |>.trans hc2
            clear hb
            rcases List.eq_nil_or_concat o with rfl | ⟨q, ⟨x, y⟩, rfl⟩
            · obtain ⟨A8, c8, rfl, -⟩ := HA1.out.form
              have HSI := Lib.hid (HAP.out HKE.out (fun q t e => by simp at e))
              clear HAP HME HSK
              go_wp2_with (first
                | ((with_reducible show wpList _ _ _ _ _ u1); refine wpList_buildSp rfl _ rfl (a1, a2) rfl ?_; intro g7 u8 hk1 hb1 hg1; go_frame; have K8 := Lib.hid hk1; have B8 := Lib.hid hb1; clear hk1 hb1 hg1)
                | ((with_reducible show wpList _ _ _ _ _ u8); at_builtin; go_loud (refine wpList_appSp rfl _ _ rfl rfl (HA1.out.below B8.out) g7 1 rfl (a1, a2) ⟨H1.out, H2.out⟩ K8.out (by simp) ?_); intro v9 u9 ho9; go_frame; have A9 := Lib.hid ho9; clear ho9)
                | fail)
              go_roundw
              case rel => exact ⟨k + 1, _, by go_num, HSI.out, by simp, A9.out⟩
              case measure => simp [RowKit.intOf]; omega
            · rw [List.concat_eq_append] at *
              obtain ⟨g8, c8, rfl, hy8⟩ := HA1.out.last
              have HQL := Lib.hid (show q.length + 1 ≤ k by have := HOK.out; simpa using this)
              have hq0 : (0 : Int) < (q.length : Int) + 1 := by omega
              have hq9 : (q.length : Int) ≤ 300000000 := by have := HQL.out; omega
              dsimp only at hy8
              by_cases hy : y = a1
              · subst hy
                have HSI := Lib.hid (HME.out q x y rfl HKE.out rfl)
                clear HAP HME HSK
                go_wp2_with (first
                  | ((with_reducible show wpList _ _ _ _ _ u1); refine wpList_endSp rfl _ _ rfl HA1.out rfl rfl H2.out ?_; intro u9 ho9; go_frame; have A9 := Lib.hid ho9; clear ho9)
                  | fail)
                go_roundw
                case rel => exact ⟨k + 1, _, by go_num, HSI.out, by have := HQL.out; simp; omega, A9.out⟩
                case measure => simp [RowKit.intOf]; omega
              · have HSI := Lib.hid (HAP.out HKE.out (fun q' t e => by
                  have := List.append_inj_right' e rfl
                  simp at this
                  subst this
                  exact hy))
                have e9 : ¬ (y : Int) = a1 := by omega
                clear HAP HME HSK
                go_wp2_with (first
                  | ((with_reducible show wpList _ _ _ _ _ u1); refine wpList_buildSp rfl _ rfl (a1, a2) rfl ?_; intro g7 u8 hk1 hb1 hg1; go_frame; have K8 := Lib.hid hk1; have B8 := Lib.hid hb1; clear hk1 hb1 hg1)
                  | ((with_reducible show wpList _ _ _ _ _ u8); at_builtin; go_loud (refine wpList_appSp rfl _ _ rfl rfl (HA1.out.below B8.out) g7 1 rfl (a1, a2) ⟨H1.out, H2.out⟩ K8.out (by have := HQL.out; simp; omega) ?_); intro v9 u9 ho9; go_frame; have A9 := Lib.hid ho9; clear ho9)
                  | fail)
                go_roundw
                case rel => exact ⟨k + 1, _, by go_num, HSI.out, by have := HQL.out; simp; omega, A9.out⟩
                case measure => simp [RowKit.intOf]; omega
    · have HD := Lib.hid (hI.done hk)
      have HA := Lib.hid hA
      have HOK := Lib.hid (show o.length ≤ 2 * l.length + 2 by have := HLE.out; omega)
      clear hI hA hok
      go_wp2_with fail
      go_ret
      exact ⟨_, o, rfl, HD.out.1, HD.out.2, HOK.out, HA.out.old B2.out⟩

end Go.Proofs.Ythjcnijageiaiaa
