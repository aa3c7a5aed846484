/- SpanGrows: the walk. -/
import Derived.Test.YthjcnijageiaiaaSpaGrowsP
import Derived.Test.YthjcnijageiaiaaSpaM
namespace Go.Proofs.Ythjcnijageiaiaa
open Go.RowKit Go.Shelf
set_option linter.unusedVariables false
set_option maxRecDepth 100000
set_option linter.unusedSimpArgs false

/-- k have been added from the front, k from the back -/
def GrowI (l : List Sp) (k : Nat) (ra rb : List Sp) : Prop := k ≤ l.length ∧ AllOf (l.take k) ra ∧ AllOf (l.drop (l.length - k)) rb ∧ (∀ t ∈ l.take k, t.1 ≤ t.2) ∧ ra.length + 2 ≤ 2 ^ (k + 1) ∧ rb.length + 2 ≤ 2 ^ (k + 1)
theorem GrowI.start (l : List Sp) : GrowI l 0 [] [] := ⟨Nat.zero_le _, by rw [List.take_zero]; exact AllOf.nil, by rw [Nat.sub_zero, List.drop_length]; exact AllOf.nil, (fun t h => by simp at h), by decide, by decide⟩
theorem GrowI.next {l ra rb qa qb : List Sp} {k : Nat} (h : GrowI l k ra rb) (hk : k < l.length) (ha : AddOf ra l[k] qa) (hb : AddOf rb (l[l.length - (k + 1)]'(by omega)) qb) (hs : l[k].1 ≤ l[k].2) (la : qa.length ≤ 2 * ra.length + 2) (lb : qb.length ≤ 2 * rb.length + 2) : GrowI l (k + 1) qa qb := by
  obtain ⟨h1, h2, h3, h4, h5, h6⟩ := h
  refine ⟨hk, ?_, ?_, ?_, ?_, ?_⟩
  · rw [List.take_succ_eq_append_getElem hk]
    exact h2.add ha
  · rw [drop_step hk]
    exact h3.add' hb
  · intro t ht
    rw [List.take_succ_eq_append_getElem hk] at ht
    rcases List.mem_append.1 ht with ht | ht
    · exact h4 t ht
    · rw [List.mem_singleton] at ht
      subst ht
      exact hs
  · rw [Nat.pow_succ]; omega
  · rw [Nat.pow_succ]; omega
theorem GrowI.small {l ra rb : List Sp} {k : Nat} (h : GrowI l k ra rb) (hl : l.length ≤ 20) : ra.length ≤ 5000000 ∧ rb.length ≤ 5000000 := by
  obtain ⟨h1, -, -, -, h5, h6⟩ := h
  have : 2 ^ (k + 1) ≤ 2 ^ 21 := Nat.pow_le_pow_right (by decide) (by omega)
  have h21 : (2 : Nat) ^ 21 = 2097152 := by decide
  omega
theorem GrowI.over {l ra rb : List Sp} {k : Nat} (h : GrowI l k ra rb) (hk : ¬ k < l.length) : rb = ra ∧ mayS ra = true ∧ ∀ t ∈ l, holdsP ra t = true := by
  obtain ⟨h1, h2, h3, h4, -⟩ := h
  have e : k = l.length := by omega
  subst e
  rw [List.take_length] at h2 h4
  rw [Nat.sub_self, List.drop_zero] at h3
  exact ⟨h3.one h2, h2.1, fun t ht => by unfold holdsP; rw [h2.1, Bool.true_and]; exact h2.holds ht (h4 t ht)⟩
set_option maxHeartbeats 16000000 in
theorem grows12_walk (K : K12) (l : List Sp) (A : Option Addr) (c : Nat) (w : World) (hl : LsF w A c l) :
    Calls Try.prog 5 #[.slice A l.length c] w fun e w' => e = .returned (.bool true) ∧ Below w.heap.size w w' := by
  have HK := Lib.hid K
  have HL := Lib.hid hl
  have hlm : (l.length : Int) ≤ 9223372036854775807 := by have h1 := hl.2.1; have h2 := hl.2.2.1; simp only [maxLen] at h2; omega
  clear K hl
  by_cases h20 : 20 < l.length
  · have e0 : (20 : Int) < l.length := by omega
    clear h20
    go_enter Try.func5, Try.ntmps5
    go_wp2_with fail
    refine (lives12_v HK.out w).mono ?_
    rintro e wz ⟨rfl, hb⟩
    have BZ := Lib.hid hb
    clear hb
    go_wp2_with fail
    go_ret
    exact ⟨rfl, BZ.out⟩
  have e0 : (l.length : Int) ≤ 20 := by omega
  have HLN := Lib.hid (show l.length ≤ 20 by omega)
  clear h20
  go_enter Try.func5, Try.ntmps5
  go_wp2_with fail
  go_loopw [3, 4, 5] (fun va vb j wr => ∃ (k : Nat) (ra rb : List Sp) (Aa : Option Addr) (ca : Nat) (Ab : Option Addr) (cb : Nat), j = .int .i64 k ∧ va = .slice Aa ra.length ca ∧ vb = .slice Ab rb.length cb ∧ GrowI l k ra rb ∧ LsF wr Aa ca ra ∧ LsF wr Ab cb rb ∧ Below w.heap.size w wr) (fun _ _ j _ => l.length - (RowKit.intOf j).toNat)
  case atStart => exact ⟨0, [], [], none, 0, none, 0, rfl, rfl, rfl, GrowI.start l, ⟨.inl rfl, Nat.le_refl _, Nat.zero_le _, fun _ => ⟨rfl, rfl⟩⟩, ⟨.inl rfl, Nat.le_refl _, Nat.zero_le _, fun _ => ⟨rfl, rfl⟩⟩, Below.refl _ _⟩
  case round =>
    obtain ⟨k, ra, rb, Aa, ca, Ab, cb, rfl, rfl, rfl, hI, hra, hrb, hB⟩ := hrel
    have HI := Lib.hid hI
    have HRA := Lib.hid hra
    have HRB := Lib.hid hrb
    have HB := Lib.hid hB
    have HSM := Lib.hid (hI.small HLN.out)
    by_cases hk : k < l.length
    · obtain ⟨m, hm⟩ : ∃ m, m = l.length - (k + 1) := ⟨_, rfl⟩
      have hml : m < l.length := by omega
      have hmi : (l.length : Int) - 1 - (k : Int) = (m : Int) := by omega
      have HNX := Lib.hid (fun (qa qb : List Sp) (ha : AddOf ra l[k] qa) (hb : AddOf rb l[m] qb) (hs : l[k].1 ≤ l[k].2) (la : qa.length ≤ 2 * ra.length + 2) (lb : qb.length ≤ 2 * rb.length + 2) => hI.next hk ha (by subst hm; exact hb) hs la lb)
      obtain ⟨b, off, rfl, hc1, hd1, hx1, hx2⟩ := sp_at (HL.out.1.below hB) k hk
      obtain ⟨b', off', e', hc2, hd2, hy1, hy2⟩ := sp_at (HL.out.1.below hB) m hml
      cases e'
      have HCY := Lib.hid (show ∀ W, Below wr.heap.size wr W → W.cell? ⟨b, off + m * 2, none⟩ = some (.int .u32 (l[m].1 : Int)) ∧ W.cell? ⟨b, off + m * 2 + 1, none⟩ = some (.int .u32 (l[m].2 : Int)) from fun W hb => ⟨(hb.cell (lt_of_cell hc2)).trans hc2, (hb.cell (lt_of_cell hd2)).trans hd2⟩)
      generalize l[k] = x at *
      generalize l[m] = y at *
      obtain ⟨x1, x2⟩ := x
      obtain ⟨y1, y2⟩ := y
      dsimp only at *
      have HX := Lib.hid (And.intro hx1 hx2)
      have HY := Lib.hid (And.intro hy1 hy2)
      have hmn : (m : Int) < l.length := by omega
      clear hI hra hrb hB hx1 hx2 hy1 hy2 hm hml
      by_cases h1 : x2 < x1
      · go_wp2_with fail
        go_quiet (fail)
        go_wp2_with fail
        refine (lives12_v HK.out _).mono ?_
        rintro e wz ⟨rfl, hb⟩
        have BZ := Lib.hid (below_chain (below_drewN HB.out _) hb)
        clear hb
        go_wp2_with fail
        go_ret
        exact ⟨rfl, BZ.out⟩
      have e1 : x1 ≤ x2 := by omega
      by_cases h2 : y2 < y1
      · go_wp2_with fail
        go_quiet (fail)
        go_wp2_with fail
        refine (lives12_v HK.out _).mono ?_
        rintro e wz ⟨rfl, hb⟩
        have BZ := Lib.hid (below_chain (below_drewN HB.out _) hb)
        clear hb
        go_wp2_with fail
        go_ret
        exact ⟨rfl, BZ.out⟩
      have e2 : y1 ≤ y2 := by omega
      have HE := Lib.hid (And.intro e1 e2)
      go_wp2_with fail
      go_quiet (fail)
      have hbq := HB.out
      generalize hwq : wr.drewN nq = wq
      have BQ := Lib.hid (show Below wr.heap.size wr wq by rw [← hwq]; exact below_drewN (Below.refl _ _) nq)
      have p1 : wq.cell? ⟨b, off + k * 2, none⟩ = some (.int .u32 (x1 : Int)) := by rw [← hwq]; exact hc1
      have p2 : wq.cell? ⟨b, off + k * 2 + 1, none⟩ = some (.int .u32 (x2 : Int)) := by rw [← hwq]; exact hd1
      clear hwq hc1 hd1 hc2 hd2 hbq
      go_wp2_with fail
      refine (HK.out.add ra (x1, x2) Aa ca wq (by have := HSM.out; omega) HX.out (HRA.out.below BQ.out)).mono ?_
      intro e u1 hd
      obtain ⟨qa, Aq, cq, rfl, ha, hla, hlq, hxa⟩ := hd.yes HI.out.2.1.1 HE.out.1
      have HA := Lib.hid ha
      have HLA := Lib.hid hla
      have HQA := Lib.hid hlq
      have BU := Lib.hid (below_chain BQ.out hxa.2)
      have r1 := (HCY.out _ BU.out).1
      have r2 := (HCY.out _ BU.out).2
      clear hd ha hla hlq hxa p1 p2
      go_wp2_with fail
      refine (HK.out.add rb (y1, y2) Ab cb u1 (by have := HSM.out; omega) HY.out (HRB.out.below BU.out)).mono ?_
      intro e u2 hd
      obtain ⟨qb, Ar, cr, rfl, ha, hla, hlq, hxa⟩ := hd.yes HI.out.2.2.1.1 HE.out.2
      have HA2 := Lib.hid ha
      have HLA2 := Lib.hid hla
      have HQB := Lib.hid hlq
      have HQA2 := Lib.hid (HQA.out.below hxa.2)
      have BV := Lib.hid (below_chain BU.out hxa.2)
      clear hd ha hla hlq hxa r1 r2
      go_wp2_with fail
      go_roundw
      case rel => exact ⟨k + 1, qa, qb, _, _, _, _, by go_num, rfl, rfl, HNX.out qa qb HA.out HA2.out HE.out.1 HLA.out HLA2.out, HQA2.out, HQB.out, below_chain HB.out BV.out⟩
      case measure => simp [RowKit.intOf]; omega
    · have HO := Lib.hid (hI.over hk)
      obtain rfl := HO.out.1
      clear hI hra hrb hB
      go_wp2_with fail
      go_loopw [10] (fun j wq => ∃ (n : Nat), j = .int .i64 n ∧ n ≤ l.length ∧ Below wr.heap.size wr wq) (fun j _ => l.length - (RowKit.intOf j).toNat)
      case atStart => exact ⟨0, rfl, Nat.zero_le _, Below.refl _ _⟩
      case round =>
        obtain ⟨n, rfl, hn, hq⟩ := hrel
        have HQ := Lib.hid hq
        by_cases hn2 : n < l.length
        · obtain ⟨b, off, rfl, hc1, hd1, hx1, hx2⟩ := sp_at ((HL.out.1.below HB.out).below hq) n hn2
          have HH := Lib.hid (HO.out.2.2 l[n] (List.getElem_mem hn2))
          generalize l[n] = x at *
          obtain ⟨x1, x2⟩ := x
          dsimp only at *
          have HX := Lib.hid (And.intro hx1 hx2)
          clear hq hx1 hx2
          go_wp2_with fail
          refine (HK.out.holds rb (x1, x2) Aa ca wr (by have := HSM.out; omega) HX.out (HRA.out.below HQ.out)).mono ?_
          rintro e u1 ⟨rfl, hb⟩
          rw [HH.out]
          have BU := Lib.hid (below_chain HQ.out hb)
          clear hb hc1 hd1
          go_wp2_with fail
          go_roundw
          case rel => exact ⟨n + 1, by go_num, hn2, BU.out⟩
          case measure => simp [RowKit.intOf]; omega
        · clear hq
          go_wp2_with fail
          refine (Spans_any rb rb Aa Ab ca cb _ _ wr (by have := HSM.out; omega) (by have := HSM.out; omega) (HRA.out.below HQ.out).1 (HRB.out.below HQ.out).1).mono ?_
          rintro e u1 ⟨rfl, hb⟩
          rw [decide_eq_true (rfl : rb = rb)]
          have BU := Lib.hid (below_chain HQ.out hb)
          clear hb
          go_wp2_with fail
          refine (lives12_v HK.out u1).mono ?_
          rintro e wz ⟨rfl, hb⟩
          have BZ := Lib.hid (below_chain (below_chain HB.out BU.out) hb)
          clear hb
          go_wp2_with fail
          go_ret
          exact ⟨rfl, BZ.out⟩

end Go.Proofs.Ythjcnijageiaiaa
