/- SpanPages: the walk. -/
import Derived.Test.YthjcnijageiaiaaSpaM
namespace Go.Proofs.Ythjcnijageiaiaa
open Go.RowKit Go.Shelf
set_option linter.unusedVariables false
set_option maxRecDepth 100000
set_option linter.unusedSimpArgs false

theorem filter_range (a b : Nat) : ∀ N, (List.range N).filter (fun n => decide (a ≤ n) && decide (n ≤ b)) = List.range' a (min N (b + 1) - a)
  | 0 => by simp
  | N + 1 => by
    rw [List.range_succ, List.filter_append, filter_range a b N]
    by_cases h : a ≤ N ∧ N ≤ b
    · have e1 : min (N + 1) (b + 1) - a = (min N (b + 1) - a) + 1 := by omega
      have e2 : a + (min N (b + 1) - a) = N := by omega
      rw [e1, List.range'_1_concat, e2]
      simp [h.1, h.2]
    · have e1 : min (N + 1) (b + 1) - a = min N (b + 1) - a := by omega
      have e2 : (decide (a ≤ N) && decide (N ≤ b)) = false := by
        rw [← Bool.not_eq_true]
        simpa using h
      rw [e1]
      simp [e2]
theorem pagesP_is {s : Sp} (h1 : s.1 < s.2) (h2 : s.2 ≤ 4096) : pagesP s = List.range' (s.1 / 64) ((s.2 - 1) / 64 + 1 - s.1 / 64) := by
  have e : touches s = fun n => decide (s.1 / 64 ≤ n) && decide (n ≤ (s.2 - 1) / 64) := by
    funext n
    unfold touches
    rw [Bool.eq_iff_iff]
    simp only [Bool.and_eq_true, decide_eq_true_eq]
    omega
  unfold pagesP
  rw [if_pos ⟨h1, h2⟩, e, filter_range]
  congr 1
  omega
theorem pagesP_get {s : Sp} (h1 : s.1 < s.2) (h2 : s.2 ≤ 4096) : (pagesP s).length = (s.2 - 1) / 64 + 1 - s.1 / 64 ∧ ∀ k (hk : k < (pagesP s).length), (pagesP s)[k] = s.1 / 64 + k := by
  rw [pagesP_is h1 h2]
  refine ⟨by simp, fun k hk => ?_⟩
  rw [List.getElem_range']
  omega
set_option maxHeartbeats 16000000 in
theorem pages12_walk (K : K12) (s : Sp) (x : Nat) (w : World) (hs : s.1 < 4294967296 ∧ s.2 < 4294967296) (hx : x < 4294967296) :
    Calls Try.prog 6 #[.agg (spC s).toArray, .int .u32 (x : Int)] w fun e w' => e = .returned (.bool true) ∧ Below w.heap.size w w' := by
  have HK := Lib.hid K
  have HS := Lib.hid hs
  have HX := Lib.hid hx
  clear K hs hx
  obtain ⟨s1, s2⟩ := s
  dsimp only at *
  go_enter Try.func6, Try.ntmps6
  go_wp2_with (first
    | ((with_reducible show wpList _ _ _ _ _ w); refine wpList_boxS rfl 25 _ rfl (spC (s1, s2)) rfl ?_; intro g1 w1 hk1 hb1 hg1; go_frame; have C1 := Lib.hid hk1; have B1 := Lib.hid hb1; clear hk1 hb1 hg1)
    | ((with_reducible show wpList _ _ _ _ _ w1); refine wpList_loadS rfl 25 _ rfl g1 rfl (spC (s1, s2)) C1.out _ Try.underlying25 rfl infoSpan ?_; go_frame)
    | fail)
  refine (HK.out.pages (s1, s2) w1 HS.out).mono ?_
  rintro e w2 ⟨v, rfl, hv⟩
  obtain ⟨Ap, cp, rfl, hr⟩ := hv.form
  have RP := Lib.hid hr
  have B2 := Lib.hid (below_chain B1.out hv.2)
  have C2 := Lib.hid (C1.out.below hv.2 C1.out.lt)
  clear hv hr
  have q0 : w2.cell? ⟨g1, 0, none⟩ = some (.int .u32 (s1 : Int)) := C2.out.cell 0 rfl
  have q1 : w2.cell? ⟨g1, 1, none⟩ = some (.int .u32 (s2 : Int)) := C2.out.cell 1 rfl
  have HPG := Lib.hid (show pagesP (s1, s2) = if s1 < s2 ∧ s2 ≤ 4096 then (List.range 64).filter (touches (s1, s2)) else [] from rfl)
  by_cases h12 : s1 < s2
  · have e1 : ¬ s2 ≤ s1 := by omega
    by_cases h2 : s2 ≤ 4096
    · have e2 : ¬ 4096 < s2 := by omega
      have HG := Lib.hid (pagesP_get (s := (s1, s2)) h12 h2)
      have hpl : (pagesP (s1, s2)).length ≤ 64 := by
        have := HG.out.1
        dsimp only at this
        omega
      have hpi : ((pagesP (s1, s2)).length : Int) ≤ 64 := by omega
      obtain ⟨z, hz⟩ : ∃ z, z = x % (s2 - s1) := ⟨_, rfl⟩
      have hz2 : z < s2 - s1 := by rw [hz]; exact Nat.mod_lt _ (by omega)
      have hzi : (x : Int) % ((s2 : Int) - (s1 : Int)) = (z : Int) := by
        rw [hz, ← Int.ofNat_sub (Nat.le_of_lt h12)]
        rfl
      obtain ⟨y, hy⟩ : ∃ y, y = s1 + z := ⟨_, rfl⟩
      have hyi : (s1 : Int) + (z : Int) = (y : Int) := by omega
      have HH := Lib.hid (And.intro h12 (And.intro h2 (And.intro (show s1 ≤ y by omega) (show y < s2 by omega))))
      have i1 : (s1 : Int) < s2 := by omega
      have i2 : (s2 : Int) ≤ 4096 := by omega
      have i3 : (y : Int) < 4096 := by omega
      have HI := Lib.hid (And.intro i1 (And.intro i2 (And.intro i3 (And.intro hzi hyi))))
      clear HPG hz hz2 hy hpl i1 i2 i3 hzi hyi
      go_wp2_with fail
      obtain ⟨i1, i2, i3, hzi, hyi⟩ := HI.out
      go_quiet (fail)
      clear i1 i2 i3 hzi hyi q0 q1
      obtain ⟨a, ha⟩ : ∃ a, a = s1 / 64 := ⟨_, rfl⟩
      obtain ⟨q, hq⟩ : ∃ q, q = y / 64 := ⟨_, rfl⟩
      have HAQ := Lib.hid (And.intro ha (And.intro hq (show a ≤ q ∧ q ≤ (s2 - 1) / 64 by have h := HH.out; omega)))
      have hqi : (y : Int) / 64 = (q : Int) := by rw [hq]; rfl
      have HQI := Lib.hid hqi
      have HQB := Lib.hid (show (q : Int) < 64 by have h := HH.out; omega)
      clear ha hq hqi
      go_wp2_with fail
      have B3 := Lib.hid (show Below w2.heap.size w2 (w2.drewN nq) from below_drewN (Below.refl _ _) nq)
      generalize w2.drewN nq = w3 at *
      have B23 := Lib.hid (below_chain B2.out B3.out)
      have C3 := Lib.hid (C2.out.below B3.out C2.out.lt)
      have RP3 := Lib.hid (RP.out.below B3.out)
      go_loopw [6, 7] (fun v j wr => ∃ k : Nat, j = .int .i64 k ∧ k ≤ (pagesP (s1, s2)).length ∧ v = .bool (decide (q < a + k)) ∧ Below w3.heap.size w3 wr) (fun _ j _ => (pagesP (s1, s2)).length - (RowKit.intOf j).toNat)
      case atStart => exact ⟨0, rfl, Nat.zero_le _, by rw [decide_eq_false (by have := HAQ.out; omega)], Below.refl _ _⟩
      case round =>
        obtain ⟨k, rfl, hk, rfl, hb⟩ := hrel
        have HB := Lib.hid hb
        by_cases hlt : k < (pagesP (s1, s2)).length
        · obtain ⟨b, off, rfl, hc, -⟩ := pt_at (RP3.out.below hb) k hlt
          obtain ⟨n, hn⟩ : ∃ n, n = a + k := ⟨_, rfl⟩
          have HPK := Lib.hid (show ∀ j m (hj : j < (pagesP (s1, s2)).length), m = a + j → wr.cell? ⟨b, off + j, none⟩ = some (.int .u32 (m : Int)) from fun j m hj hm => by
            obtain ⟨b', off', e, h, -⟩ := pt_at (RP3.out.below hb) j hj
            cases e
            rw [HG.out.2 j hj] at h
            rw [h, hm, HAQ.out.1])
          have f1 : (s1 : Int) < ((n : Int) + 1) * 64 := by have h := HAQ.out; omega
          have f2 : (n : Int) * 64 < (s2 : Int) := by
            have h := HAQ.out
            have h1 := HG.out.1
            have h2 := HH.out
            omega
          have f3 : (n : Int) < 64 := by have h2 := HH.out; omega
          have F := Lib.hid (And.intro f1 (And.intro f2 f3))
          have p0 : wr.cell? ⟨b, off + k, none⟩ = some (.int .u32 (n : Int)) := HPK.out k n hlt hn
          have HNA := Lib.hid hn
          clear hb hc f1 f2 f3
          have r0 : wr.cell? ⟨g1, 0, none⟩ = some (.int .u32 (s1 : Int)) := (C3.out.below HB.out C3.out.lt).cell 0 rfl
          have r1 : wr.cell? ⟨g1, 1, none⟩ = some (.int .u32 (s2 : Int)) := (C3.out.below HB.out C3.out.lt).cell 1 rfl
          by_cases hq1 : q < n
          · skip
            have HD := Lib.hid (decide_eq_true (show q < a + k from by omega))
            have HN := Lib.hid (show decide (q < a + (k + 1)) = true by rw [decide_eq_true_eq]; omega)
            rw [HD.out]
            clear hq1 hn
            go_wp2_with fail
            obtain ⟨f1, f2, f3⟩ := F.out
            have z1 : ¬ ((n : Int) + 1) * 64 ≤ (s1 : Int) := by omega
            have z2 : ¬ (s2 : Int) ≤ (n : Int) * 64 := by omega
            clear f1 f2
            rcases Nat.eq_zero_or_pos k with hk0 | hk0
            · skip
              have hk2 : ¬ 0 < k := by omega
              clear hk0
              go_quiet (fail)
              clear z1 z2 f3
              go_wp2_with fail
              go_roundw
              case rel => exact ⟨k + 1, by go_num, hlt, by rw [HN.out]; first | done | rfl | (simp; omega), below_drewN HB.out _⟩
              case measure => simp [RowKit.intOf]; omega
            · obtain ⟨j, hj⟩ : ∃ j, j + 1 = k := ⟨k - 1, by omega⟩
              obtain ⟨m, hm⟩ : ∃ m, m = a + j := ⟨_, rfl⟩
              have p1 := HPK.out j m (by omega) hm
              have hji : (k : Int) - 1 = (j : Int) := by omega
              have hmi : (m : Int) + 1 = (n : Int) := by have := HNA.out; omega
              have hjl : (j : Int) < (pagesP (s1, s2)).length := by omega
              have hmb : (m : Int) < 64 := by omega
              have hk1 : (0 : Int) < (k : Int) := by omega
              clear hj hm
              go_quiet (fail)
              clear z1 z2 f3 hji hmi hjl hmb
              go_wp2_with fail
              go_roundw
              case rel => exact ⟨k + 1, by go_num, hlt, by rw [HN.out]; first | done | rfl | (simp; omega), below_drewN HB.out _⟩
              case measure => simp [RowKit.intOf]; omega
          by_cases hq2 : n = q
          · skip
            have HD := Lib.hid (decide_eq_false (show ¬ q < a + k by omega))
            have HN := Lib.hid (show decide (q < a + (k + 1)) = true by rw [decide_eq_true_eq]; omega)
            rw [HD.out]
            subst hq2
            have hqi := HQI.out
            have hqb := HQB.out
            clear hq1 hn
            go_wp2_with fail
            clear hqi hqb
            obtain ⟨f1, f2, f3⟩ := F.out
            have z1 : ¬ ((n : Int) + 1) * 64 ≤ (s1 : Int) := by omega
            have z2 : ¬ (s2 : Int) ≤ (n : Int) * 64 := by omega
            clear f1 f2
            rcases Nat.eq_zero_or_pos k with hk0 | hk0
            · skip
              have hk2 : ¬ 0 < k := by omega
              clear hk0
              go_quiet (fail)
              clear z1 z2 f3
              go_wp2_with fail
              go_roundw
              case rel => exact ⟨k + 1, by go_num, hlt, by rw [HN.out]; first | done | rfl | (simp; omega), below_drewN HB.out _⟩
              case measure => simp [RowKit.intOf]; omega
            · obtain ⟨j, hj⟩ : ∃ j, j + 1 = k := ⟨k - 1, by omega⟩
              obtain ⟨m, hm⟩ : ∃ m, m = a + j := ⟨_, rfl⟩
              have p1 := HPK.out j m (by omega) hm
              have hji : (k : Int) - 1 = (j : Int) := by omega
              have hmi : (m : Int) + 1 = (n : Int) := by have := HNA.out; omega
              have hjl : (j : Int) < (pagesP (s1, s2)).length := by omega
              have hmb : (m : Int) < 64 := by omega
              have hk1 : (0 : Int) < (k : Int) := by omega
              clear hj hm
              go_quiet (fail)
              clear z1 z2 f3 hji hmi hjl hmb
              go_wp2_with fail
              go_roundw
              case rel => exact ⟨k + 1, by go_num, hlt, by rw [HN.out]; first | done | rfl | (simp; omega), below_drewN HB.out _⟩
              case measure => simp [RowKit.intOf]; omega
          have HD := Lib.hid (decide_eq_false (show ¬ q < a + k by omega))
          have HN := Lib.hid (show decide (q < a + (k + 1)) = false by rw [decide_eq_false_iff_not]; omega)
          rw [HD.out]
          have hqi := HQI.out
          have hqb := HQB.out
          have hqk : ¬ (n : Int) = (q : Int) := by omega
          clear hq1 hq2 hn
          go_wp2_with fail
          clear hqi hqb
          obtain ⟨f1, f2, f3⟩ := F.out
          have z1 : ¬ ((n : Int) + 1) * 64 ≤ (s1 : Int) := by omega
          have z2 : ¬ (s2 : Int) ≤ (n : Int) * 64 := by omega
          clear f1 f2
          rcases Nat.eq_zero_or_pos k with hk0 | hk0
          · skip
            have hk2 : ¬ 0 < k := by omega
            clear hk0
            go_quiet (fail)
            clear z1 z2 f3
            go_wp2_with fail
            go_roundw
            case rel => exact ⟨k + 1, by go_num, hlt, by rw [HN.out]; first | done | rfl | (simp; omega), below_drewN HB.out _⟩
            case measure => simp [RowKit.intOf]; omega
          · obtain ⟨j, hj⟩ : ∃ j, j + 1 = k := ⟨k - 1, by omega⟩
            obtain ⟨m, hm⟩ : ∃ m, m = a + j := ⟨_, rfl⟩
            have p1 := HPK.out j m (by omega) hm
            have hji : (k : Int) - 1 = (j : Int) := by omega
            have hmi : (m : Int) + 1 = (n : Int) := by have := HNA.out; omega
            have hjl : (j : Int) < (pagesP (s1, s2)).length := by omega
            have hmb : (m : Int) < 64 := by omega
            have hk1 : (0 : Int) < (k : Int) := by omega
            clear hj hm
            go_quiet (fail)
            clear z1 z2 f3 hji hmi hjl hmb
            go_wp2_with fail
            go_roundw
            case rel => exact ⟨k + 1, by go_num, hlt, by rw [HN.out]; first | done | rfl | (simp; omega), below_drewN HB.out _⟩
            case measure => simp [RowKit.intOf]; omega
        · have HT := Lib.hid (show decide (q < a + k) = true by
            have h := HAQ.out
            have h1 := HG.out.1
            have h2 := HH.out
            rw [decide_eq_true_eq]
            omega)
          rw [HT.out]
          clear hb
          go_wp2_with fail
          refine (lives12_v HK.out wr).mono ?_
          rintro e wz ⟨rfl, hb⟩
          have BZ := Lib.hid (below_chain (below_chain B23.out HB.out) hb)
          clear hb
          go_wp2_with fail
          go_ret
          exact ⟨rfl, BZ.out⟩
    · have e2 : 4096 < s2 := by omega
      have HF := Lib.hid (show pagesP (s1, s2) = [] by rw [HPG.out, if_neg fun h => h2 h.2])
      clear HPG
      have hl0 : (pagesP (s1, s2)).length = 0 := by rw [HF.out]; rfl
      generalize (pagesP (s1, s2)).length = n at *
      subst hl0
      go_wp2_with fail
      refine (lives12_v HK.out w2).mono ?_
      rintro e wz ⟨rfl, hb⟩
      have BZ := Lib.hid (below_chain B2.out hb)
      clear hb
      go_wp2_with fail
      go_ret
      exact ⟨rfl, BZ.out⟩
  · have e1 : s2 ≤ s1 := by omega
    have HF := Lib.hid (show pagesP (s1, s2) = [] by rw [HPG.out, if_neg fun h => h12 h.1])
    clear HPG
    have hl0 : (pagesP (s1, s2)).length = 0 := by rw [HF.out]; rfl
    generalize (pagesP (s1, s2)).length = n at *
    subst hl0
    go_wp2_with fail
    refine (lives12_v HK.out w2).mono ?_
    rintro e wz ⟨rfl, hb⟩
    have BZ := Lib.hid (below_chain B2.out hb)
    clear hb
    go_wp2_with fail
    go_ret
    exact ⟨rfl, BZ.out⟩

end Go.Proofs.Ythjcnijageiaiaa
