/- The reference: which replies may be, which are the same, what a status stands for. -/
import Derived.Test.YtboalmmpcfiicaaDoorBac4
import Derived.Test.YtboalmmpcfiicaaDoorNameRefIs
namespace Go.Proofs.YtboalmmpcfiicaaDoor
open Go.RowKit Go.Shelf Go.Lib
set_option linter.unusedVariables false
set_option maxRecDepth 100000
set_option linter.unusedSimpArgs false

set_option maxHeartbeats 4000000 in
theorem ErrnoR (k : Nat) (hk : k < 256) (w : World) : Calls Tryd.prog 18 #[.int .u8 (k : Int)] w fun e w' => e = .returned (.int .i64 (if k ≤ 9 then errB k else 2)) ∧ w = w' := by
  by_cases h : k ≤ 7
  · obtain rfl | rfl | rfl | rfl | rfl | rfl | rfl | rfl : k = 0 ∨ k = 1 ∨ k = 2 ∨ k = 3 ∨ k = 4 ∨ k = 5 ∨ k = 6 ∨ k = 7 := by omega
    all_goals
      clear h hk
      go_enter Tryd.func18, Tryd.ntmps18
      go_wp2_with fail
      go_ret
      exact ⟨rfl, rfl⟩
  · have e : (if k ≤ 9 then errB k else 2) = 2 := by
      split
      · obtain rfl | rfl : k = 8 ∨ k = 9 := by omega
        · rfl
        · rfl
      · rfl
    rw [e]
    have ne : ∀ j : Int, j ≤ 7 → ((k : Int) == j) = false := fun j hj => by rw [beq_eq_false_iff_ne]; omega
    have e0 := ne 0 (by decide)
    have e1 := ne 1 (by decide)
    have e2 := ne 2 (by decide)
    have e3 := ne 3 (by decide)
    have e4 := ne 4 (by decide)
    have e5 := ne 5 (by decide)
    have e6 := ne 6 (by decide)
    have e7 := ne 7 (by decide)
    clear e ne h hk
    go_enter Tryd.func18, Tryd.ntmps18
    go_wp2_with fail
    go_ret
    exact ⟨rfl, rfl⟩
theorem mayB_no {c : BackX} (h : 4 ≤ (c.client : Int) ∨ (c.inc : Int) < 1 ∨ (c.seq : Int) < 1 ∨ 9 < (c.status : Int) ∨ 4096 < (c.size : Int) ∨ 64 < (c.data.length : Int) ∨ 32 < (c.names.length : Int)) : mayB c = false := by
  cases hm : mayB c
  · rfl
  · exfalso
    simp only [mayB, Bool.and_eq_true, decide_eq_true_eq] at hm
    omega
theorem mayB_yes {c : BackX} (h1 : (c.client : Int) < 4) (h2 : 1 ≤ (c.inc : Int)) (h3 : 1 ≤ (c.seq : Int)) (h4 : (c.status : Int) ≤ 9) (h5 : (c.size : Int) ≤ 4096) (h6 : (c.data.length : Int) ≤ 64) (h7 : (c.names.length : Int) ≤ 32) : mayB c = namesB c.names := by
  unfold mayB
  rw [decide_eq_true (show c.client < 4 by omega), decide_eq_true (show 0 < c.inc by omega), decide_eq_true (show 0 < c.seq by omega), decide_eq_true (show c.status ≤ 9 by omega), decide_eq_true (show c.size ≤ 4096 by omega), decide_eq_true (show c.data.length ≤ 64 by omega), decide_eq_true (show c.names.length ≤ 32 by omega)]
  simp
set_option maxHeartbeats 8000000 in
theorem MayR_v {F : Nat → Prop} {c : BackX} {v u : Value} {w : World} (h : BacV w F c v u) : Calls Tryd.prog 13 #[.agg (bacCells c v u).toArray] w fun e w' => e = .returned (.bool (mayB c)) ∧ Below w.heap.size w w' := by
  obtain ⟨A, ca, rfl, -⟩ := id h.1
  obtain ⟨B, cb, rfl, -⟩ := id h.2.1
  have HR := Lib.hid h.2.1.rds
  clear h
  generalize hcs : bacCells c (.slice A c.data.length ca) (.slice B c.names.length cb) = cs at *
  have HCS := Lib.hid hcs
  clear hcs
  go_enter Tryd.func13, Tryd.ntmps13
  go_wp2_with (first
    | ((with_reducible show wpList _ _ _ _ _ w); refine wpList_boxS rfl 31 _ rfl cs rfl ?_; intro g1 w1 hk1 hb1 hg1; go_frame; have C1 := Lib.hid (show Cs w1 g1 31 (bacCells c (.slice A c.data.length ca) (.slice B c.names.length cb)).toArray by rw [HCS.out]; exact hk1); have B1 := Lib.hid hb1; have G1 := Lib.hid hg1; obtain ⟨p0, p1, p2, p3, p4, p5, p6, p7, p8, p9, p10, p11, p12⟩ := C1.out.bac; clear hk1 hb1 hg1)
    | fail)
  all_goals first
    | (go_ret; exact ⟨by rw [mayB_no (by omega)]; rfl, B1.out⟩)
    | skip
  have hmy : mayB c = namesB c.names := by
    refine mayB_yes ?_ ?_ ?_ ?_ ?_ ?_ ?_ <;> omega
  have HMY := Lib.hid hmy
  have hl32 : (c.names.length : Int) ≤ 32 := by omega
  have C1F := Lib.hid C1.out
  clear p0 p1 p2 p3 p4 p5 p6 p7 p8 p9 p10 p11 p12 hmy
  rename_i hq1 hq2 hq3 hq4 hq5 hq6 hq7 hqK hqA
  clear hq1 hq2 hq3 hq4 hq5 hq6 hq7
  generalize hns : c.names = ns at *
  have HNS := Lib.hid hns
  clear hns
  go_wp2_with fail
  go_loopw [3] (fun j wr => ∃ k : Nat, j = .int .i64 k ∧ NamesR ns k ∧ Below w1.heap.size w1 wr) (fun j _ => ns.length - (RowKit.intOf j).toNat)
  case atStart => exact ⟨0, rfl, NamesR.start ns, Below.refl _ _⟩
  case round =>
    obtain ⟨k, rfl, hI, hB⟩ := hrel
    have hg := C1F.out.below hB C1F.out.lt
    have pn : wr.cell? ⟨g1, 11, none⟩ = some (.slice B ns.length cb) := hg.bac.2.2.2.2.2.2.2.2.2.2.2.1
    have BW := Lib.hid (below_chain B1.out hB)
    by_cases hk : k < ns.length
    · obtain ⟨b, off, rfl, hc⟩ := ((HR.out.below B1.out).below hB).get hk
      have hcell := hc k hk
      have his := fun u => Is_ref ns[k] u
      cases hn : nameL (L ns[k])
      · have hf := Lib.hid (namesR_no hk (show nameAtB ns k = false by unfold nameAtB; rw [txAt_is ns k hk, hn]; rfl))
        rw [hn] at his
        generalize ns[k] = s at *
        have HI := Lib.hid his
        clear hn hc hI his hg
        go_wp2_with fail
        go_quiet (exact Calls.quiet_of_same ((HI.out _).mono fun _ _ h => ⟨h.1, h.2.symm⟩))
        go_wp2_with fail
        go_ret
        exact ⟨by rw [HMY.out, hf.out]; first | done | rfl, below_drewN BW.out _⟩
      · rw [hn] at his
        rcases k with _ | k
        · simp only [Nat.add_zero] at hcell
          have hf := Lib.hid (hI.next hk (by rw [nameAt_zero ns hk]; exact hn))
          generalize ns[0] = s at *
          have HI := Lib.hid his
          clear hn hc hI his hg
          go_wp2_with fail
          go_quiet (exact Calls.quiet_of_same ((HI.out _).mono fun _ _ h => ⟨h.1, h.2.symm⟩))
          go_wp2_with fail
          go_roundw
          case rel => exact ⟨0 + 1, by go_num, hf.out, below_drewN hB _⟩
          case measure => simp [RowKit.intOf]; omega
        · have hk' : k < ns.length := by omega
          have hprev := hc k hk'
          have hs := nameAt_succ ns k hk
          rw [hn, Bool.true_and] at hs
          have hle := leq_is (L ns[k + 1]) (L ns[k])
          have hnx := fun hc => hI.next hk hc
          have hno := fun hc => namesR_no hk hc
          rw [hs] at hnx hno
          have HX := Lib.hid hnx
          have HN := Lib.hid hno
          rw [← toList_L, ← toList_L] at hle
          clear hnx hno hs hn hc hI hg
          generalize ns[k] = s0 at *
          generalize ns[k + 1] = s1 at *
          have HI := Lib.hid his
          clear his
          cases hls : lessB (L s0) (L s1)
          · have hf := Lib.hid (HN.out hls)
            rw [toList_L s0, toList_L s1, hls, ← toList_L, ← toList_L] at hle
            clear HX HN hls
            go_wp2_with fail
            go_quiet (exact Calls.quiet_of_same ((HI.out _).mono fun _ _ h => ⟨h.1, h.2.symm⟩))
            go_wp2_with fail
            go_ret
            exact ⟨by rw [HMY.out, hf.out]; first | done | rfl, below_drewN BW.out _⟩
          · have hf := Lib.hid (HX.out hls)
            rw [toList_L s0, toList_L s1, hls, ← toList_L, ← toList_L] at hle
            clear HX HN hls
            go_wp2_with fail
            go_quiet (exact Calls.quiet_of_same ((HI.out _).mono fun _ _ h => ⟨h.1, h.2.symm⟩))
            go_wp2_with fail
            go_roundw
            case rel => exact ⟨k + 1 + 1, by go_num, hf.out, below_drewN hB _⟩
            case measure => simp [RowKit.intOf]; omega
    · have hv := Lib.hid (hI.over hk)
      clear hI hg
      go_wp2_with fail
      go_ret
      exact ⟨by rw [HMY.out, hv.out]; first | done | rfl, BW.out⟩
set_option maxHeartbeats 1000000 in
theorem Texts_len (p q : List ByteArray) (A B : Option Addr) (ca cb : Nat) (w : World) (hp : p.length ≤ maxLen) (hq : q.length ≤ maxLen) (rp : RdS w A p) (rq : RdS w B q) :
    Calls Tryd.prog 20 #[.slice A p.length ca, .slice B q.length cb] w fun e w' => e = .returned (.bool (LL p == LL q)) ∧ Below w.heap.size w w' := by
  unfold maxLen at hp hq
  by_cases hl : p.length = q.length
  · have el : ((p.length : Int) == (q.length : Int)) = true := by simp [hl]
    have el' : ((p.length : Int) != (q.length : Int)) = false := by simp [hl]
    have HP := Lib.hid rp
    have HQ := Lib.hid rq
    have HL := Lib.hid hl
    clear rp rq hl
    go_enter Tryd.func20, Tryd.ntmps20
    go_wp2
    clear el el'
    go_loopw [5] (fun j wr => ∃ k : Nat, j = .int .i64 k ∧ SameI p q k ∧ Below w.heap.size w wr) (fun j _ => p.length - (RowKit.intOf j).toNat)
    case atStart => exact ⟨0, rfl, ⟨Nat.zero_le _, by simp⟩, Below.refl _ _⟩
    case round =>
      obtain ⟨k, rfl, hI, hB⟩ := hrel
      by_cases hk : k < p.length
      · have hk2 : k < q.length := by rw [← HL.out]; exact hk
        obtain ⟨b, off, rfl, hc⟩ : ∃ b off, A = some ⟨b, off, none⟩ ∧ ∀ j (h : j < p.length), wr.cell? ⟨b, off + j, none⟩ = some (.string p[j]) := by
          rcases HP.out.below hB with h | h
          · rw [h] at hk; simp at hk
          · exact h
        obtain ⟨b', off', rfl, hc'⟩ : ∃ b off, B = some ⟨b, off, none⟩ ∧ ∀ j (h : j < q.length), wr.cell? ⟨b, off + j, none⟩ = some (.string q[j]) := by
          rcases HQ.out.below hB with h | h
          · rw [h] at hk2; simp at hk2
          · exact h
        have hc1 := hc k hk
        have hc2 := hc' k hk2
        have hx := fun e => same_no hk hk2 e
        have hy := fun e => hI.next hk hk2 e
        generalize p[k] = x at *
        generalize q[k] = y at *
        have HX := Lib.hid hx
        have HY := Lib.hid hy
        clear hx hy hc hc' hI
        by_cases he : x = y
        · have hf := Lib.hid (HY.out he)
          subst he
          clear HX HY
          go_wp2
          go_quiet (fail)
          go_wp2
          go_roundw
          case rel => exact ⟨k + 1, by go_num, hf.out, below_drewN hB _⟩
          case measure => simp [RowKit.intOf]; omega
        · have hf := Lib.hid (HX.out he)
          have hb : (x.toList == y.toList) = false := by
            rw [beq_eq_false_iff_ne, toList_L, toList_L]
            exact fun h => he (L_inj h)
          have hb' : (x.toList != y.toList) = true := by rw [bne, hb]; rfl
          clear HX HY he
          go_wp2
          go_quiet (fail)
          go_wp2
          go_ret
          exact ⟨by rw [hf.out]; first | done | rfl, below_drewN hB _⟩
      · have hv := Lib.hid (hI.over hk HL.out)
        clear hI
        go_wp2
        go_ret
        exact ⟨by rw [hv.out]; first | done | rfl, hB⟩
  · have el : ((p.length : Int) == (q.length : Int)) = false := by simp; omega
    have el' : ((p.length : Int) != (q.length : Int)) = true := by simp; omega
    have hv := Lib.hid (len_no hl)
    clear hl rp rq
    go_enter Tryd.func20, Tryd.ntmps20
    go_wp2
    go_ret
    exact ⟨by rw [hv.out]; first | done | rfl, Below.refl _ _⟩
set_option maxHeartbeats 16000000 in
theorem SameR_v {F G : Nat → Prop} {a b : BackX} {va ua vb ub : Value} {w : World} (ha : BacV w F a va ua) (hb : BacV w G b vb ub) : Calls Tryd.prog 15 #[.agg (bacCells a va ua).toArray, .agg (bacCells b vb ub).toArray] w fun e w' => e = .returned (.bool (sameB a b)) ∧ Below w.heap.size w w' := by
  obtain ⟨A, ca, rfl, -⟩ := id ha.1
  obtain ⟨B, cb, rfl, -⟩ := id hb.1
  obtain ⟨C, cc, rfl, -⟩ := id ha.2.1
  obtain ⟨D, cd, rfl, -⟩ := id hb.2.1
  have HE := Lib.hid fun W (h : Below w.heap.size w W) => Same_any A B a.data b.data ca cb W (ha.1.rdB.below h) (hb.1.rdB.below h)
  have HS := Lib.hid fun W (h : Below w.heap.size w W) => Texts_len a.names b.names C D cc cd W ha.2.1.len hb.2.1.len (ha.2.1.rds.below h) (hb.2.1.rds.below h)
  have BB := Lib.hid (fun (o o2 : Obj) => below_chain (below_newB w o) (below_newB (w.alloc o) o2))
  rw [same_intB]
  clear ha hb
  obtain ⟨a1, a2, a3, a4, a5, a6, a7, a8, a9, a10, a11, a12, a13⟩ := a
  obtain ⟨b1, b2, b3, b4, b5, b6, b7, b8, b9, b10, b11, b12, b13⟩ := b
  unfold bacCells at *
  dsimp only at *
  rw [← names_LL]
  generalize (a11 == b11) = e11 at *
  generalize (LL a12 == LL b12) = e12 at *
  generalize a11.length = n11 at *
  generalize b11.length = m11 at *
  generalize a12.length = n12 at *
  generalize b12.length = m12 at *
  go_enter Tryd.func15, Tryd.ntmps15
  go_wp2_with fail
  all_goals first
    | (refine (HE.out _ (BB.out _ _)).mono ?_
       rintro e w3 ⟨rfl, rfl⟩
       go_wp2_with fail
       all_goals first
         | (refine (HS.out _ (BB.out _ _)).mono ?_
            rintro e w4 ⟨rfl, hb⟩
            have HB4 := Lib.hid (below_chain (BB.out _ _) hb)
            have q1 := ((Cs.new w 31 _).below (below_newB _ _) (by rw [World.size_alloc]; exact Nat.lt_succ_self _)).below hb (by rw [World.size_alloc, World.size_alloc]; omega)
            have q2 := (Cs.new (w.alloc _) 31 _).below hb (by simp only [World.size_alloc]; omega)
            have z1 := q1.cell 12 rfl
            have z2 := q2.cell 12 rfl
            rw [World.size_alloc] at z2
            clear q1 q2
            clear hb
            go_wp2_with fail
            all_goals
              go_ret
              exact ⟨by simp_all, HB4.out⟩)
         | (go_ret
            exact ⟨by simp_all, BB.out _ _⟩))
    | (go_ret
       exact ⟨by simp_all, BB.out _ _⟩)

end Go.Proofs.YtboalmmpcfiicaaDoor
