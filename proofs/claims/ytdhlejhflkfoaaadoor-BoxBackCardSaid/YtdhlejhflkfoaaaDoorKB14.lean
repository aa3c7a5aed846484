/- SWEPT -/
import Derived.Test.YtdhlejhflkfoaaaDoorKB3
import Derived.Test.YtdhlejhflkfoaaaDoorKB13
import Derived.Test.YtdhlejhflkfoaaaDoorKB9
import Derived.Maps.OwnSet
import Derived.Maps.Views
import Derived.Test.YtdhlejhflkfoaaaDoorKB5
import Derived.Test.YtdhlejhflkfoaaaDoorKB12
import Derived.Test.YtdhlejhflkfoaaaDoorKB4
import Derived.Test.YtdhlejhflkfoaaaDoorKB6
import Derived.Test.YtdhlejhflkfoaaaDoorKB10
/- The program: a whole tree's rows. -/
namespace Go.Proofs.YtdhlejhflkfoaaaDoor
open Go.RowKit Go.Shelf
set_option linter.unusedVariables false
set_option maxRecDepth 100000
set_option linter.unusedSimpArgs false

theorem name_lenB {l : List UInt8} (h : nameL l = true) : l.length ≤ 32 := by
  unfold nameL at h
  simp only [Bool.and_eq_true, decide_eq_true_eq] at h
  exact h.1.1.1.2
/-- the rows, or no whole tree -/
def RowsRet (t : Tr) (w : World) (e : Ending) (w' : World) : Prop := ((WholeT t ∧ ∃ v, e = .returned (.tuple #[v, .int .i64 0]) ∧ OwnX rowN w' w.heap.size (w.heap.size ≤ ·) v (rowsT t)) ∨ (¬ WholeT t ∧ e = .returned (.tuple #[.slice none 0 0, .int .i64 2]))) ∧ Below w.heap.size w w'
theorem idx_any {w : World} {F : Nat → Prop} {cs : List Value} {t : Tr} (h : TrAt w F cs t) : ∃ ss : List Value, (∀ j v, ss[j]? = some v → cs[4 + j]? = some v) ∧ ss.length = 12 ∧ t.sess.length = 4 ∧ ∀ k (hk : k < t.sess.length), ∃ v, BsV w F v t.sess[k].2.2 ∧ t.sess[k].1 < 4294967296 ∧ t.sess[k].2.1 < 18446744073709551616 ∧ ∀ W, (Instr.index 28 (.agg ss.toArray) (.int .i64 (k : Int))).run Tryd.prog W = .ok (.agg (sesC t.sess[k] v).toArray) W := by
  obtain ⟨nv, ss, rfl, -, hse, hl4, hl12, -⟩ := h
  obtain ⟨x0, x1, x2, x3, a0, a1, a2, a3, he, rfl, h0, h1, h2, h3, hb⟩ := hse.four hl4 hl12
  refine ⟨ses12 x0 x1 x2 x3 a0 a1 a2 a3, fun j v hv => by rw [Nat.add_comm]; exact hv, rfl, hl4, ?_⟩
  rw [he] at hb ⊢
  intro k hk
  rcases (show k = 0 ∨ k = 1 ∨ k = 2 ∨ k = 3 by simp at hk; omega) with rfl | rfl | rfl | rfl
  · exact ⟨a0, h0, (hb x0 (by simp)).1, (hb x0 (by simp)).2.1, idx_ses0 x0 x1 x2 x3 a0 a1 a2 a3⟩
  · exact ⟨a1, h1, (hb x1 (by simp)).1, (hb x1 (by simp)).2.1, idx_ses1 x0 x1 x2 x3 a0 a1 a2 a3⟩
  · exact ⟨a2, h2, (hb x2 (by simp)).1, (hb x2 (by simp)).2.1, idx_ses2 x0 x1 x2 x3 a0 a1 a2 a3⟩
  · exact ⟨a3, h3, (hb x3 (by simp)).1, (hb x3 (by simp)).2.1, idx_ses3 x0 x1 x2 x3 a0 a1 a2 a3⟩
theorem sesL_len : ∀ (l : List Ses) (i : Nat), (sesL i l).length ≤ l.length
  | [], i => Nat.zero_le _
  | x :: l, i => by
    have := sesL_len l (i + 1)
    unfold sesL
    rw [List.length_append, List.length_cons]
    split <;> simp <;> omega
theorem ses_next {l : List Ses} {k : Nat} (h : k < l.length) : sesL 0 (l.take (k + 1)) = sesL 0 (l.take k) ++ (if l[k].1 = 0 then [] else [sesR k l[k]]) := by
  rw [take_snocB h, sesL_snoc, List.length_take, Nat.zero_add, Nat.min_eq_left (by omega)]
theorem own_rw {w : World} {N M : Nat} {v vr : Value} (ho : ∀ k, v.ownBlock = some k → N ≤ k ∧ k < M) {x : Rw} (hN : N ≤ M) (hv : NewV w (M ≤ ·) vr x.2) : rowN.rd w (fun k => N ≤ k ∧ v.ownBlock ≠ some k) [sv x.1, vr] x :=
  ⟨vr, rfl, hv.mono fun k _ hk => ⟨by omega, fun e => by have := (ho k e).2; omega⟩⟩
set_option maxHeartbeats 32000000 in
theorem Rows_v (t : Tr) (cs : List Value) (F : Nat → Prop) (w : World) (hT : Tabs w) (h : TrAt w F cs t) :
    Calls Tryd.prog 9 #[.agg cs.toArray] w fun e w' => RowsRet t w e w' := by
  have HTR := Lib.hid h
  have HT := Lib.hid hT
  have HLN := Lib.hid h.len
  obtain ⟨ss, hsub, hs12, hs4, hidx⟩ := idx_any h
  have HSUB := Lib.hid hsub
  have HS12 := Lib.hid hs12
  have HS4 := Lib.hid hs4
  have HIDX := Lib.hid hidx
  obtain ⟨nv, ss', e, ⟨A, c, rfl, hr, -⟩, -⟩ := h
  have HR := Lib.hid hr
  have C0 := Lib.hid (show cs[0]? = some (.slice A t.nodes.length c) by rw [e]; rfl)
  clear hT hsub hs12 hs4 hidx e hr
  go_enter Tryd.func9, Tryd.ntmps9
  go_wp2_with (first
    | ((with_reducible show wpList _ _ _ _ _ w); refine wpList_boxS rfl 30 _ rfl cs rfl ?_; intro g1 w1 hk1 hb1 hg1; go_frame; have C1 := Lib.hid hk1; have B1 := Lib.hid hb1; clear hk1 hb1 hg1)
    | ((with_reducible show wpList _ _ _ _ _ w1); refine wpList_loadS rfl 30 _ rfl g1 rfl cs C1.out _ Tryd.underlying30 rfl (by rw [HLN.out]; exact infoTree) ?_; go_frame)
    | fail)
  refine (Whole_v t cs F w1 (HT.out.below B1.out) (HTR.out.below B1.out)).mono ?_
  rintro e w2 ⟨q, rfl, hq, hb⟩
  have HQ := Lib.hid hq
  have B2 := Lib.hid (below_chain B1.out hb)
  have D2 := Lib.hid (C1.out.below hb C1.out.lt)
  clear hq hb
  cases q
  · have HNO := Lib.hid (show ¬ WholeT t from fun h => by have := HQ.out.2 h; cases this)
    go_wp2_with fail
    go_ret2
    exact ⟨.inr ⟨HNO.out, rfl⟩, B2.out⟩
  have HW := Lib.hid (HQ.out.1 rfl)
  clear HQ
  have HM := Lib.hid HW.out.may
  have HKN := Lib.hid (show ∀ n ∈ t.nodes, n.data.length ≤ 4096 ∧ n.names.length ≤ 32 ∧ ∀ e ∈ n.names, e.1.length ≤ 32 from fun n hn => ⟨(HM.out.ok n hn).size, (HM.out.ok n hn).many, fun e he => name_lenB ((HM.out.ok n hn).good e he).1⟩)
  have i64 : (t.nodes.length : Int) ≤ 64 := by have := HM.out.many; omega
  have H64 := Lib.hid HM.out.many
  have q0 : w2.cell? ⟨g1, 0, none⟩ = some (.slice A t.nodes.length c) := D2.out.cell 0 (by simpa using C0.out)
  go_wp2_with fail
  clear q0
  go_loopw [4, 15] (fun v4 j wr => ∃ k : Nat, j = .int .i64 k ∧ k ≤ t.nodes.length ∧ OwnX rowN wr w2.heap.size (w2.heap.size ≤ ·) v4 ((t.nodes.take k).map nodR) ∧ Below w2.heap.size w2 wr) (fun _ j _ => t.nodes.length - (RowKit.intOf j).toNat)
  case atStart => exact ⟨0, rfl, Nat.zero_le _, OwnX.nil _ _ _, Below.refl _ _⟩
  case round =>
    obtain ⟨k, rfl, hk, ho, hB⟩ := hrel
    have HO := Lib.hid ho
    have HB := Lib.hid hB
    have HBB := Lib.hid (below_chain B2.out hB)
    by_cases hlt : k < t.nodes.length
    · obtain ⟨b, off, xs, rfl, hnd, hat⟩ := (HR.out.below HBB.out).get k hlt
      have HAT := Lib.hid (show At wr b (off + k * 6) xs from hat)
      have HND := Lib.hid hnd
      have HXL := Lib.hid (show xs.length = 6 from hnd.len)
      have HTS := Lib.hid (show (t.nodes.take (k + 1)).map nodR = (t.nodes.take k).map nodR ++ [nodR t.nodes[k]] by rw [take_snocB hlt, List.map_append]; rfl)
      have HOKN := Lib.hid (HKN.out _ (List.getElem_mem hlt))
      have HLE := Lib.hid (show ((t.nodes.take k).map nodR).length ≤ 64 by rw [List.length_map, List.length_take]; have := H64.out; omega)
      generalize t.nodes[k] = n at *
      obtain ⟨lr, hlr⟩ : ∃ lr, lr = (t.nodes.take k).map nodR := ⟨_, rfl⟩
      rw [← hlr] at HO HTS HLE
      have HLR := Lib.hid hlr
      clear ho hB hat hnd hlr
      go_wp2_with (first
        | ((with_reducible show wpList _ _ _ _ _ wr); refine wpList_load_agg rfl 48 _ rfl b (off + k * 6) rfl xs HAT.out _ Tryd.underlying48 rfl (by rw [HXL.out]; exact infoNode) ?_; go_frame)
        | ((with_reducible show wpList _ _ _ _ _ wr); refine wpList_allocS rfl 48 rfl nodeZ nodeZero ?_; intro g5 w5 hk1 hb1 hg1; go_frame; have C5 := Lib.hid hk1; have B5 := Lib.hid hb1; have G5 := Lib.hid hg1; clear hk1 hb1 hg1)
        | ((with_reducible show wpList _ _ _ _ _ w5); refine wpList_storeS rfl 48 _ _ rfl g5 rfl xs nodeZ rfl C5.out (by rw [HXL.out]; rfl) HND.out.one (by rw [HXL.out]; exact infoNode) ?_; intro w6 hk2 ht2; go_frame; have C6 := Lib.hid hk2; have B6 := Lib.hid (show Below wr.heap.size wr w6 from below_turn B5.out ht2 B5.out.size G5.out); clear hk2 ht2)
        | ((with_reducible show wpList _ _ _ _ _ w6); refine wpList_loadS rfl 48 _ rfl g5 rfl xs C6.out _ Tryd.underlying48 rfl (by rw [HXL.out]; exact infoNode) ?_; go_frame)
        | fail)
      refine (rowOfNode_v n xs F w6 (HND.out.below B6.out) HOKN.out.1 HOKN.out.2.1 HOKN.out.2.2).mono ?_
      rintro e w7 ⟨vr, rfl, hv, hb⟩
      obtain ⟨Ar, cr, rfl, -⟩ := hv.1.parts
      have HV := Lib.hid hv
      have B7 := Lib.hid (below_chain B6.out hb)
      have O7 := Lib.hid (HO.out.below B7.out)
      clear hv hb
      go_wp2_with (first
        | ((with_reducible show wpList _ _ _ _ _ w7); refine wpList_buildRow rfl _ rfl (nodR n) Ar cr rfl ?_; intro g8 w8 hk1 hb1 hg1; go_frame; have C8 := Lib.hid hk1; have B8 := Lib.hid hb1; clear hk1 hb1 hg1)
        | (at_builtin; refine wpList_append_x1 (E := rowN) rfl _ _ rfl w2.heap.size (w2.heap.size ≤ ·) _ lr rfl (O7.out.below B8.out) g8 1 rfl [sv (nodR n).1, .slice Ar (nodR n).2.length cr] (nodR n) (own_rw (fun k hk => ⟨(HO.out.lt k hk).1, Nat.lt_of_lt_of_le (HO.out.lt k hk).2 B6.out.size⟩) (by have h1 := HB.out.size; have h2 := B6.out.size; omega) (HV.out.below B8.out)) 41 C8.out (by have := HLE.out; omega) (by have h1 := HB.out.size; have h2 := B7.out.size; have h3 := B8.out.size; omega) (by have h1 := HB.out.size; have h2 := B7.out.size; have h3 := B8.out.size; show w2.heap.size ≤ w8.heap.size; omega) ?_; intro v9 w9 ho9 hg9; go_frame; have O9 := Lib.hid ho9; have B9 := Lib.hid (show Below w2.heap.size w2 w9 from (below_chain HB.out (below_chain B7.out B8.out)).grown hg9 (by have h1 := HB.out.size; have h2 := B7.out.size; have h3 := B8.out.size; omega) (fun k hk => (HO.out.lt k hk).1)); clear ho9 hg9)
        | fail)
      go_roundw
      case rel => exact ⟨k + 1, by go_num, hlt, by rw [HTS.out]; exact O9.out, B9.out⟩
      case measure => simp [RowKit.intOf]; omega
    · obtain rfl : k = t.nodes.length := by omega
      rw [List.take_length] at ho
      have HO1 := Lib.hid ho
      have HB1 := Lib.hid hB
      have DW := Lib.hid (D2.out.below hB D2.out.lt)
      obtain ⟨wA, rfl⟩ : ∃ wA, wA = wr := ⟨_, rfl⟩
      clear ho hB HO HB HBB
      go_wp2_with (first
        | ((with_reducible show wpList _ _ _ _ _ wA); refine wpList_loadA (by rfl) 28 _ rfl g1 4 rfl ss (fun j v hv => DW.out.cell (4 + j) (by simpa using HSUB.out j v hv)) _ Tryd.underlying28 rfl (by rw [HS12.out]; exact infoSes4) ?_; go_frame)
        | fail)
      go_loopw [4, 27] (fun v4 j wr => ∃ k : Nat, j = .int .i64 k ∧ k ≤ 4 ∧ OwnX rowN wr w2.heap.size (w2.heap.size ≤ ·) v4 (t.nodes.map nodR ++ sesL 0 (t.sess.take k)) ∧ Below w2.heap.size w2 wr) (fun _ j _ => 4 - (RowKit.intOf j).toNat)
      case atStart => exact ⟨0, rfl, Nat.zero_le _, by rw [List.take_zero]; show OwnX rowN _ _ _ _ (t.nodes.map nodR ++ []); rw [List.append_nil]; exact HO1.out, HB1.out⟩
      case round =>
        obtain ⟨k, rfl, hk, ho, hB⟩ := hrel
        have HO := Lib.hid ho
        have HB := Lib.hid hB
        have HBB := Lib.hid (below_chain B2.out hB)
        by_cases hlt : k < 4
        · have hks : k < t.sess.length := by rw [HS4.out]; exact hlt
          obtain ⟨v, hbs, h1, h2, hix⟩ := HIDX.out k hks
          have HBS := Lib.hid (hbs.below HBB.out)
          have HSO := Lib.hid (HW.out.ses _ (List.getElem_mem hks))
          have HNX := Lib.hid (ses_next hks)
          have HLE := Lib.hid (show (t.nodes.map nodR ++ sesL 0 (t.sess.take k)).length ≤ 68 by
            have h1 := sesL_len (t.sess.take k) 0
            have h2 : (t.sess.take k).length ≤ 4 := by rw [List.length_take]; omega
            rw [List.length_append, List.length_map]
            have := H64.out
            omega)
          obtain ⟨lr, hlr⟩ : ∃ lr, lr = t.nodes.map nodR ++ sesL 0 (t.sess.take k) := ⟨_, rfl⟩
          have HNX2 := Lib.hid (show t.nodes.map nodR ++ sesL 0 (t.sess.take (k + 1)) = lr ++ (if t.sess[k].1 = 0 then [] else [sesR k t.sess[k]]) by rw [HNX.out, ← List.append_assoc, hlr])
          rw [← hlr] at HO HLE
          have H1 := Lib.hid h1
          have H2 := Lib.hid h2
          have hix' := hix wr
          generalize t.sess[k] = s at *
          clear ho hB hbs h1 h2 hix hlr HNX
          have HVO := Lib.hid HBS.out.one
          by_cases hz : s.1 = 0
          · have i0 : ((s.1 : Int) != 0) = false := by rw [hz]; rfl
            have HZ := Lib.hid hz
            clear hz
            go_wp2_with (first
              | ((with_reducible show wpList _ _ _ _ _ wr); refine wpList_allocS rfl 27 rfl sesZ sesZero ?_; intro g5 w5 hk1 hb1 hg1; go_frame; have C5 := Lib.hid hk1; have B5 := Lib.hid hb1; have G5 := Lib.hid hg1; clear hk1 hb1 hg1)
              | ((with_reducible show wpList _ _ _ _ _ w5); refine wpList_storeS rfl 27 _ _ rfl g5 rfl (sesC s v) sesZ rfl C5.out rfl (by intro q hq; simp [sesC] at hq; rcases hq with rfl | rfl | rfl; rfl; rfl; exact HVO.out) infoSesT ?_; intro w6 hk2 ht2; go_frame; have C6 := Lib.hid hk2; have B6 := Lib.hid (show Below wr.heap.size wr w6 from below_turn B5.out ht2 B5.out.size G5.out); have q0 : w6.cell? ⟨g5, 0, none⟩ = some (.int .u32 (s.1 : Int)) := hk2.cell 0 rfl; clear hk2 ht2 hix')
              | fail)
            go_roundw
            case rel => exact ⟨k + 1, by go_num, hlt, by rw [HNX2.out, if_pos HZ.out, List.append_nil]; exact HO.out.below B6.out, below_chain HB.out B6.out⟩
            case measure => simp [RowKit.intOf]; omega
          · have i0 : ((s.1 : Int) != 0) = true := by simp; omega
            have HZ := Lib.hid hz
            clear hz
            go_wp2_with (first
              | ((with_reducible show wpList _ _ _ _ _ wr); refine wpList_allocS rfl 27 rfl sesZ sesZero ?_; intro g5 w5 hk1 hb1 hg1; go_frame; have C5 := Lib.hid hk1; have B5 := Lib.hid hb1; have G5 := Lib.hid hg1; clear hk1 hb1 hg1)
              | ((with_reducible show wpList _ _ _ _ _ w5); refine wpList_storeS rfl 27 _ _ rfl g5 rfl (sesC s v) sesZ rfl C5.out rfl (by intro q hq; simp [sesC] at hq; rcases hq with rfl | rfl | rfl; rfl; rfl; exact HVO.out) infoSesT ?_; intro w6 hk2 ht2; go_frame; have C6 := Lib.hid hk2; have B6 := Lib.hid (show Below wr.heap.size wr w6 from below_turn B5.out ht2 B5.out.size G5.out); have q0 : w6.cell? ⟨g5, 0, none⟩ = some (.int .u32 (s.1 : Int)) := hk2.cell 0 rfl; clear hk2 ht2 hix')
              | ((with_reducible show wpList _ _ _ _ _ w6); refine wpList_loadS rfl 27 _ rfl g5 rfl (sesC s v) C6.out _ Tryd.underlying27 rfl infoSesT ?_; go_frame)
              | fail)
            clear q0
            refine (rowOfSession_v k s v F w6 (by omega) H1.out H2.out HSO.out.1 (HBS.out.below B6.out)).mono ?_
            rintro e w7 ⟨vr, rfl, hv, hb⟩
            obtain ⟨Ar, cr, rfl, -⟩ := hv.1.parts
            have HV := Lib.hid hv
            have B7 := Lib.hid (below_chain B6.out hb)
            have O7 := Lib.hid (HO.out.below B7.out)
            clear hv hb
            go_wp2_with (first
              | ((with_reducible show wpList _ _ _ _ _ w7); refine wpList_buildRow rfl _ rfl (sesR k s) Ar cr rfl ?_; intro g8 w8 hk1 hb1 hg1; go_frame; have C8 := Lib.hid hk1; have B8 := Lib.hid hb1; clear hk1 hb1 hg1)
              | (at_builtin; refine wpList_append_x1 (E := rowN) rfl _ _ rfl w2.heap.size (w2.heap.size ≤ ·) _ lr rfl (O7.out.below B8.out) g8 1 rfl [sv (sesR k s).1, .slice Ar (sesR k s).2.length cr] (sesR k s) (own_rw (fun k hk => ⟨(HO.out.lt k hk).1, Nat.lt_of_lt_of_le (HO.out.lt k hk).2 B6.out.size⟩) (by have h1 := HB.out.size; have h2 := B6.out.size; omega) (HV.out.below B8.out)) 41 C8.out (by have := HLE.out; omega) (by have h1 := HB.out.size; have h2 := B7.out.size; have h3 := B8.out.size; omega) (by have h1 := HB.out.size; have h2 := B7.out.size; have h3 := B8.out.size; show w2.heap.size ≤ w8.heap.size; omega) ?_; intro v9 w9 ho9 hg9; go_frame; have O9 := Lib.hid ho9; have B9 := Lib.hid (show Below w2.heap.size w2 w9 from (below_chain HB.out (below_chain B7.out B8.out)).grown hg9 (by have h1 := HB.out.size; have h2 := B7.out.size; have h3 := B8.out.size; omega) (fun k hk => (HO.out.lt k hk).1)); clear ho9 hg9)
              | fail)
            go_roundw
            case rel => exact ⟨k + 1, by go_num, hlt, by rw [HNX2.out, if_neg HZ.out]; exact O9.out, B9.out⟩
            case measure => simp [RowKit.intOf]; omega
        · obtain rfl : k = 4 := by omega
          have HLE := Lib.hid (show (t.nodes.map nodR ++ sesL 0 (t.sess.take 4)).length ≤ 68 by
            have h1 := sesL_len (t.sess.take 4) 0
            have h2 : (t.sess.take 4).length ≤ 4 := by rw [List.length_take]; omega
            rw [List.length_append, List.length_map]
            have := H64.out
            omega)
          have HTS := Lib.hid (show rowsT t = t.nodes.map nodR ++ sesL 0 (t.sess.take 4) ++ [rstR t] by
            have e1 : t.sess.take 4 = t.sess := List.take_of_length_le (by rw [HS4.out]; exact Nat.le_refl _)
            rw [e1]
            rfl)
          obtain ⟨lr, hlr⟩ : ∃ lr, lr = t.nodes.map nodR ++ sesL 0 (t.sess.take 4) := ⟨_, rfl⟩
          rw [← hlr] at HO HLE HTS
          have D7 := Lib.hid (D2.out.below hB D2.out.lt)
          have B6 := Lib.hid (Below.refl wr.heap.size wr)
          clear ho hB hlr
          go_wp2_with (first
            | ((with_reducible show wpList _ _ _ _ _ wr); refine wpList_loadS rfl 30 _ rfl g1 rfl cs D7.out _ Tryd.underlying30 rfl (by rw [HLN.out]; exact infoTree) ?_; go_frame)
            | fail)
          refine (rowOfRest_v t cs F wr (HTR.out.below HBB.out)).mono ?_
          rintro e w7 ⟨vr, rfl, hv, hb⟩
          obtain ⟨Ar, cr, rfl, -⟩ := hv.1.parts
          have HV := Lib.hid hv
          have B7 := Lib.hid hb
          have O7 := Lib.hid (HO.out.below B7.out)
          clear hv hb
          go_wp2_with (first
            | ((with_reducible show wpList _ _ _ _ _ w7); refine wpList_buildRow rfl _ rfl (rstR t) Ar cr rfl ?_; intro g8 w8 hk1 hb1 hg1; go_frame; have C8 := Lib.hid hk1; have B8 := Lib.hid hb1; clear hk1 hb1 hg1)
            | (at_builtin; refine wpList_append_x1 (E := rowN) rfl _ _ rfl w2.heap.size (w2.heap.size ≤ ·) _ lr rfl (O7.out.below B8.out) g8 1 rfl [sv (rstR t).1, .slice Ar (rstR t).2.length cr] (rstR t) (own_rw (fun k hk => ⟨(HO.out.lt k hk).1, Nat.lt_of_lt_of_le (HO.out.lt k hk).2 B6.out.size⟩) (by have h1 := HB.out.size; have h2 := B6.out.size; omega) (HV.out.below B8.out)) 41 C8.out (by have := HLE.out; omega) (by have h1 := HB.out.size; have h2 := B7.out.size; have h3 := B8.out.size; omega) (by have h1 := HB.out.size; have h2 := B7.out.size; have h3 := B8.out.size; show w2.heap.size ≤ w8.heap.size; omega) ?_; intro v9 w9 ho9 hg9; go_frame; have O9 := Lib.hid ho9; have B9 := Lib.hid (show Below w2.heap.size w2 w9 from (below_chain HB.out (below_chain B7.out B8.out)).grown hg9 (by have h1 := HB.out.size; have h2 := B7.out.size; have h3 := B8.out.size; omega) (fun k hk => (HO.out.lt k hk).1)); clear ho9 hg9)
            | fail)
          go_ret2
          refine ⟨.inl ⟨HW.out, v9, rfl, ?_⟩, B2.out.trans (B9.out.mono B2.out.size)⟩
          rw [HTS.out]
          exact (O9.out.base B2.out.size).mono fun k _ hk => by have := B2.out.size; omega

end Go.Proofs.YtdhlejhflkfoaaaDoor
/- The program: the readings by their first byte; whether a tree has these rows. -/
namespace Go.Proofs.YtdhlejhflkfoaaaDoor
open Go.RowKit Go.Shelf Go.Maps
set_option linter.unusedVariables false
set_option maxRecDepth 100000
set_option linter.unusedSimpArgs false

def fnN : Value := .func (.func 56) #[] #[]
def fnS : Value := .func (.func 57) #[] #[]
def fnT : Value := .func (.func 58) #[] #[]
def k8 (k : Int) : Lit := .int .u8 k
def d8 (x : Int) : DataW Unit := .lit (.int .i64 x)
/-- a function reads as a number -/
noncomputable def fnR (v : Value) : Option (DataW Unit × List MemPlace) := open Classical in
  if v = fnN then some (d8 1, []) else if v = fnS then some (d8 2, []) else if v = fnT then some (d8 3, []) else if v = .nilFunc then some (d8 0, []) else none
theorem fn_ne1 : fnS ≠ fnN := fun e => by
  injection e with e
  injection e with e
  exact absurd e (by decide)
theorem fn_ne2 : fnT ≠ fnN := fun e => by
  injection e with e
  injection e with e
  exact absurd e (by decide)
theorem fn_ne3 : fnT ≠ fnS := fun e => by
  injection e with e
  injection e with e
  exact absurd e (by decide)
theorem fnR_N : fnR fnN = some (d8 1, []) := by unfold fnR; rw [if_pos rfl]
theorem fnR_S : fnR fnS = some (d8 2, []) := by unfold fnR; rw [if_neg fn_ne1, if_pos rfl]
theorem fnR_T : fnR fnT = some (d8 3, []) := by unfold fnR; rw [if_neg fn_ne2, if_neg fn_ne3, if_pos rfl]
theorem fnR_0 : fnR .nilFunc = some (d8 0, []) := by
  unfold fnR
  rw [if_neg (fun e => by cases e), if_neg (fun e => by cases e), if_neg (fun e => by cases e), if_pos rfl]
theorem fnR_inv {v : Value} {x : Int} {ps : List MemPlace} (h : fnR v = some (d8 x, ps)) : (x = 1 → v = fnN) ∧ (x = 2 → v = fnS) ∧ (x = 3 → v = fnT) ∧ (x = 0 → v = .nilFunc) := by
  unfold fnR at h
  have inj : ∀ {a b : Int} {p q : List MemPlace}, some (d8 a, p) = some (d8 b, q) → a = b := fun e => by
    injection e with e
    injection e with e
    injection e with e
    injection e with e
  split at h
  · rename_i e
    have := inj h
    subst this
    exact ⟨fun _ => e, fun e => absurd e (by decide), fun e => absurd e (by decide), fun e => absurd e (by decide)⟩
  · split at h
    · rename_i e
      have := inj h
      subst this
      exact ⟨fun e => absurd e (by decide), fun _ => e, fun e => absurd e (by decide), fun e => absurd e (by decide)⟩
    · split at h
      · rename_i e
        have := inj h
        subst this
        exact ⟨fun e => absurd e (by decide), fun e => absurd e (by decide), fun _ => e, fun e => absurd e (by decide)⟩
      · split at h
        · rename_i e
          have := inj h
          subst this
          exact ⟨fun e => absurd e (by decide), fun e => absurd e (by decide), fun e => absurd e (by decide), fun _ => e⟩
        · cases h
def rdD0 : DataW Unit := .map []
def rdD : DataW Unit := ((rdD0.put (k8 110) (d8 1)).put (k8 115) (d8 2)).put (k8 116) (d8 3)
theorem ukeyed8 : Keyed Tryd.prog 5 := int_keyed Tryd.underlying5
theorem key_8 (k : Int) (h : 0 ≤ k ∧ k < 256) : keyOf Tryd.prog 5 (.int .u8 k) = some (k8 k) := keyOf_int_mk (P := Tryd.prog) Tryd.underlying5 (q := .u8) (a := k) (by simp [Lit.wf, IntKind.min, IntKind.max, IntKind.signed, IntKind.bits]; omega)
theorem fn_zero (w : World) : (zeroValue 67).run Tryd.prog w = .ok .nilFunc w := by kernel_rfl
theorem wpList_insert_fn {w : World} {ops : Array Oper} {rest : List Oper} {o : Oper} {a : Act} {Q : Exit → Act → World → Prop}
    (hg : o.guard = none) (m x v : Operand) (t : TypeId) (hop : o.op = Op.insert t m x v)
    (k e : TypeId) (K : Keyed Tryd.prog k) (ht : Tryd.prog.underlying t = some (.map k e)) (R : Value → Option (DataW Unit × List MemPlace)) (b n : Nat) (D : DataW Unit)
    (hm : a.eval m = .map (some b)) (hown : w.ownsMap Tryd.prog k R b n D) (hn : n < maxLen) (key val : Value) (kl : Lit) (hx : a.eval x = key) (hv : a.eval v = val) (hkey : keyOf Tryd.prog k key = some kl)
    (d : DataW Unit) (ps : List MemPlace) (hval : R val = some (d, ps))
    (hK : ∀ w', w'.ownsMap Tryd.prog k R b (n + 1) (D.put kl d) → w.grownBy w' (some b) → wpList Tryd.prog ops Q rest (a.put o.dst undef) w') :
    wpList Tryd.prog ops Q (o :: rest) a w := by
  refine wpList_plain hg fun K' hK' => ?_
  obtain ⟨w', hrun, r1, r2⟩ := hown.update K ht hn hkey hval
  unfold Oper.wp
  simp [execOp, hop, hm, hx, hv, hrun, Result.andThen]
  exact hK' _ _ (hK w' r1 r2)
/-- the map of readings -/
def RdM (w : World) (g : Nat) : Prop := w.ownsMap Tryd.prog 5 fnR g 3 rdD
theorem RdM.turn {w w' : World} {g : Nat} {G : Nat → Prop} (h : RdM w g) (ht : Turn w w' G) (hG : ¬ G g) : RdM w' g := by
  obtain ⟨es, clock, h1, h2⟩ := h
  refine ⟨es, clock, ?_, h2⟩
  have hlt : g < w.heap.size := by
    rw [Array.getElem?_eq_some_iff] at h1
    exact h1.1
  exact (ht.block g hlt hG).trans h1
theorem RdM.below {w w' : World} {g : Nat} (h : RdM w g) (hb : Below w.heap.size w w') : RdM w' g := h.turn (Turn.of_below hb fun _ => False) fun h => h
theorem RdM.lt {w : World} {g : Nat} (h : RdM w g) : g < w.heap.size := by
  obtain ⟨es, clock, h1, h2⟩ := h
  rw [Array.getElem?_eq_some_iff] at h1
  exact h1.1
set_option maxHeartbeats 8000000 in
theorem readings_v (w : World) : Calls Tryd.prog 35 #[] w fun e w' => e = .returned (.map (some w.heap.size)) ∧ RdM w' w.heap.size ∧ Below w.heap.size w w' := by
  have hmm := @run_makeMap Tryd.prog
  have M0 := Lib.hid (World.ownsMap_made (H := Unit) w Tryd.prog 5 fnR)
  have B0 := Lib.hid ((Below.refl w.heap.size w).alloc (Nat.le_refl _) (.map #[] 0))
  go_enter Tryd.func35, Tryd.ntmps35
  go_wp2_with (first
    | ((with_reducible show wpList _ _ _ _ _ (World.alloc w _)); refine wpList_insert_fn rfl _ _ _ 65 rfl 5 67 ukeyed8 Tryd.underlying65 fnR w.heap.size 0 rdD0 rfl M0.out (by decide) (.int .u8 110) fnN (k8 110) rfl rfl (key_8 110 (by decide)) (d8 1) [] fnR_N ?_; intro w1 hm hg; have M1 := Lib.hid hm; have B1 := Lib.hid (B0.out.grown hg B0.out.size (fun j hj => by cases hj; exact Nat.le_refl _)); clear hm hg; go_frame)
    | ((with_reducible show wpList _ _ _ _ _ w1); refine wpList_insert_fn rfl _ _ _ 65 rfl 5 67 ukeyed8 Tryd.underlying65 fnR w.heap.size 1 (rdD0.put (k8 110) (d8 1)) rfl M1.out (by decide) (.int .u8 115) fnS (k8 115) rfl rfl (key_8 115 (by decide)) (d8 2) [] fnR_S ?_; intro w2 hm hg; have M2 := Lib.hid hm; have B2 := Lib.hid (B1.out.grown hg B1.out.size (fun j hj => by cases hj; exact Nat.le_refl _)); clear hm hg; go_frame)
    | ((with_reducible show wpList _ _ _ _ _ w2); refine wpList_insert_fn rfl _ _ _ 65 rfl 5 67 ukeyed8 Tryd.underlying65 fnR w.heap.size 2 ((rdD0.put (k8 110) (d8 1)).put (k8 115) (d8 2)) rfl M2.out (by decide) (.int .u8 116) fnT (k8 116) rfl rfl (key_8 116 (by decide)) (d8 3) [] fnR_T ?_; intro w3 hm hg; have M3 := Lib.hid hm; have B3 := Lib.hid (B2.out.grown hg B2.out.size (fun j hj => by cases hj; exact Nat.le_refl _)); clear hm hg; go_frame)
    | fail)
  go_ret
  exact ⟨rfl, M3.out, B3.out⟩
/-- which reading a first byte has -/
def kindV (b : Nat) : Value := if b = 110 then fnN else if b = 115 then fnS else if b = 116 then fnT else .nilFunc
def isKind (b : Nat) : Bool := decide (b = 110 ∨ b = 115 ∨ b = 116)
theorem k8_ne {a b : Int} (h : a ≠ b) : k8 a ≠ k8 b := fun e => by
  injection e with _ e
  exact h e
theorem rd_look {w : World} {g : Nat} (h : RdM w g) (b : Nat) (hb : b < 256) : (Instr.lookup 65 (.map (some g)) (.int .u8 (b : Int)) true).run Tryd.prog w = .ok (.tuple #[kindV b, .bool (isKind b)]) w := by
  obtain ⟨v, ps, hrun, hv⟩ := World.ownsMap.look_ok h ukeyed8 Tryd.underlying65 (fn_zero w) fnR_0 (key_8 (b : Int) (by omega))
  rw [hrun]
  by_cases h1 : b = 110
  · subst h1
    rw [(fnR_inv (x := 1) hv).1 rfl]
    rfl
  by_cases h2 : b = 115
  · subst h2
    rw [(fnR_inv (x := 2) hv).2.1 rfl]
    rfl
  by_cases h3 : b = 116
  · subst h3
    rw [(fnR_inv (x := 3) hv).2.2.1 rfl]
    rfl
  have n1 : k8 (b : Int) ≠ k8 110 := k8_ne (by omega)
  have n2 : k8 (b : Int) ≠ k8 115 := k8_ne (by omega)
  have n3 : k8 (b : Int) ≠ k8 116 := k8_ne (by omega)
  unfold rdD at hv ⊢
  rw [atKey_put_other n3, atKey_put_other n2, atKey_put_other n1] at hv
  rw [has_put_other n3, has_put_other n2, has_put_other n1, (fnR_inv (x := 0) hv).2.2.2 rfl]
  unfold kindV isKind
  rw [if_neg h1, if_neg h2, if_neg h3, decide_eq_false (by omega)]
  rfl

theorem between_same {a : List Rw} (ha : SortR a) : betweenP a a = [] := by
  cases h : betweenP a a with
  | nil => rfl
  | cons c r =>
    have := look_between ha ha c.1
    rw [h, if_pos rfl] at this
    unfold lookC at this
    simp at this
theorem rows_count {t : Tr} (h : WholeT t) : (rowsT t).length ≤ 69 ∨ t.sess.length ≠ 4 := by
  by_cases h4 : t.sess.length = 4
  · left
    have h1 := h.may.many
    have h2 := sesL_len t.sess 0
    unfold rowsT
    simp only [List.length_append, List.length_map, List.length_singleton]
    omega
  · exact .inr h4
theorem mem_sesL : ∀ {l : List Ses} {i : Nat} {x : Rw}, x ∈ sesL i l → ∃ j s, s ∈ l ∧ i ≤ j ∧ j < i + l.length ∧ x = sesR j s ∧ s.1 ≠ 0
  | [], i, x, h => by cases h
  | s :: l, i, x, h => by
    unfold sesL at h
    rw [List.mem_append] at h
    rcases h with h | h
    · by_cases h0 : s.1 = 0
      · rw [if_pos h0] at h
        cases h
      · rw [if_neg h0] at h
        exact ⟨i, s, by simp, Nat.le_refl _, by simp, List.mem_singleton.1 h, h0⟩
    · obtain ⟨j, s', h1, h2, h3, h4⟩ := mem_sesL h
      exact ⟨j, s', List.mem_cons_of_mem _ h1, by omega, by simp; omega, h4⟩
theorem rows_keys {t : Tr} {x : Rw} (h : x ∈ rowsT t) : x.1.length ≤ 5 := by
  unfold rowsT at h
  rw [List.mem_append, List.mem_append] at h
  rcases h with (h | h) | h
  · obtain ⟨n, -, rfl⟩ := List.mem_map.1 h
    simp [nodR, beL_length]
  · obtain ⟨j, s, -, -, -, rfl, -⟩ := mem_sesL h
    simp [sesR, beL_length]
  · rw [List.mem_singleton.1 h]
    simp [rstR]
set_option maxHeartbeats 8000000 in
theorem hasRows_v (t : Tr) (l : List Rw) (cs : List Value) (v : Value) (F G : Nat → Prop) (w : World) (hT : Tabs w) (h : TrAt w F cs t) (hl : LsW rowE w G v l) (hm : mayP l = true) (hln : l.length ≤ 20000) :
    Calls Tryd.prog 36 #[.agg cs.toArray, v] w fun e w' => TellsB (WholeT t ∧ rowsT t = l) w e w' := by
  have HTR := Lib.hid h
  have HT := Lib.hid hT
  have HLN := Lib.hid h.len
  have HL4 := Lib.hid (show t.sess.length = 4 by obtain ⟨_, _, _, _, _, h, _⟩ := h; exact h)
  have HL := Lib.hid hl
  have HM := Lib.hid hm
  have HLL := Lib.hid hln
  obtain ⟨A, c, rfl, -⟩ := hl
  have hm2 := (may_iff l).1 hm
  have HS := Lib.hid (show SmallR l from ⟨by omega, fun x hx => by have := (hm2.1 x hx).2.1; omega⟩)
  have HSR := Lib.hid hm2.2
  clear h hT hm hln hm2
  go_enter Tryd.func36, Tryd.ntmps36
  go_wp2_with (first
    | ((with_reducible show wpList _ _ _ _ _ w); refine wpList_boxS rfl 30 _ rfl cs rfl ?_; intro g1 w1 hk1 hb1 hg1; go_frame; have C1 := Lib.hid hk1; have B1 := Lib.hid hb1; clear hk1 hb1 hg1)
    | ((with_reducible show wpList _ _ _ _ _ w1); refine wpList_loadS rfl 30 _ rfl g1 rfl cs C1.out _ Tryd.underlying30 rfl (by rw [HLN.out]; exact infoTree) ?_; go_frame)
    | fail)
  refine (Rows_v t cs F w1 (HT.out.below B1.out) (HTR.out.below B1.out)).mono ?_
  rintro e w2 ⟨hr, hb⟩
  have B2 := Lib.hid (below_chain B1.out hb)
  clear hb
  rcases hr with ⟨hw, v2, rfl, ho⟩ | ⟨hw, rfl⟩
  · have HW := Lib.hid hw
    have HO := Lib.hid ho
    have HCN := Lib.hid (show (rowsT t).length ≤ 69 by rcases rows_count hw with h | h; exact h; exact absurd HL4.out h)
    clear hw ho
    go_wp2_with fail
    refine (Between_any (rowsT t) l v2 (.slice A l.length c) _ _ w2 ⟨by have := HCN.out; omega, fun x hx => by have := rows_keys hx; omega⟩ HS.out (by have := HCN.out; omega) HLL.out (OwnX.lsW HO.out).rowE (LsW.below HL.out B2.out)).mono ?_
    rintro e w3 ⟨hb, v3, rfl, hv⟩
    have B3 := Lib.hid (below_chain B2.out hb)
    clear hb
    obtain ⟨b, hb⟩ : ∃ b, b = mayP (rowsT t) := ⟨_, rfl⟩
    rw [HM.out, ← hb, Bool.and_true] at hv
    rw [HM.out, ← hb, Bool.and_true]
    cases b
    · have HNO := Lib.hid (show ¬ (WholeT t ∧ rowsT t = l) from fun h => by rw [h.2, HM.out] at hb; cases hb)
      clear hv hb
      simp only [Bool.false_eq_true, if_false]
      go_wp2_with fail
      go_ret
      exact ⟨false, rfl, ⟨fun h => (by cases h), fun h => absurd h HNO.out⟩, B3.out⟩
    · rw [if_pos rfl] at hv
      rw [if_pos rfl]
      have HBT := Lib.hid hb.symm
      obtain ⟨bl, hbl⟩ : ∃ bl, bl = betweenP (rowsT t) l := ⟨_, rfl⟩
      have HBL := Lib.hid hbl
      rw [← hbl] at hv
      obtain ⟨A3, c3, rfl, -⟩ := hv
      clear hb hbl
      cases bl with
      | nil =>
        have HY := Lib.hid (show WholeT t ∧ rowsT t = l from ⟨HW.out, between_none HBT.out HM.out HBL.out.symm⟩)
        simp only [List.length_nil]
        go_wp2_with fail
        go_ret
        exact ⟨true, rfl, ⟨fun _ => HY.out, fun _ => rfl⟩, B3.out⟩
      | cons c0 r0 =>
        have HNO := Lib.hid (show ¬ (WholeT t ∧ rowsT t = l) from fun h => by
          have h1 := HBL.out
          rw [h.2, between_same HSR.out] at h1
          cases h1)
        obtain ⟨n, hn⟩ : ∃ n, n = (c0 :: r0).length := ⟨_, rfl⟩
        have hz : ((n : Int) == 0) = false := by
          rw [hn]
          simp only [List.length_cons, beq_eq_false_iff_ne]
          omega
        rw [← hn]
        clear hn
        go_wp2_with fail
        go_ret
        exact ⟨false, rfl, ⟨fun h => (by cases h), fun h => absurd h HNO.out⟩, B3.out⟩
  · have HNO := Lib.hid hw
    clear hw
    go_wp2_with fail
    go_ret
    exact ⟨false, rfl, ⟨fun h => (by cases h), fun h => absurd h.1 HNO.out⟩, B2.out⟩

end Go.Proofs.YtdhlejhflkfoaaaDoor
/- The program: Load, as it goes. -/
namespace Go.Proofs.YtdhlejhflkfoaaaDoor
open Go.RowKit Go.Shelf
set_option linter.unusedVariables false
set_option maxRecDepth 100000
set_option linter.unusedSimpArgs false

/-- what a row makes of a tree -/
def stepD (t : Tr) (x : Rw) : Tr :=
  match x.1 with
  | [] => t
  | b :: k => if b.toNat = 110 then nodS t k x.2 else if b.toNat = 115 then sesS t k x.2 else restS t x.2
def readD (l : List Rw) : Tr := l.foldl stepD zeroT
def kindR (x : Rw) : Bool :=
  match x.1 with
  | [] => false
  | b :: _ => isKind b.toNat
def kindL (l : List Rw) : Bool := l.all kindR
/-- the program loads rows -/
structure LoadP (l : List Rw) : Prop where
  may : mayP l = true
  kinds : kindL l = true
  whole : WholeT (readD l)
  rows : rowsT (readD l) = l
def LoadRaw (l : List Rw) (w : World) (e : Ending) (w' : World) : Prop :=
  ((LoadP l ∧ ∃ L cs, e = .returned (.tuple #[.agg cs.toArray, .int .i64 0]) ∧ LoT w' w.heap.size L cs (readD l)) ∨ (¬ LoadP l ∧ e = .returned (.tuple #[.agg treeZ.toArray, .int .i64 5]))) ∧ Below w.heap.size w w'
theorem stepD_len (t : Tr) (x : Rw) : (stepD t x).nodes.length ≤ t.nodes.length + 1 := by
  unfold stepD
  split
  · omega
  · split
    · simp [nodS]
    · split
      · unfold sesS
        split <;> simp
      · simp [restS]
theorem fold_len : ∀ (l : List Rw) (t : Tr), (l.foldl stepD t).nodes.length ≤ t.nodes.length + l.length
  | [], t => by simp
  | x :: l, t => by
    have h1 := fold_len l (stepD t x)
    have h2 := stepD_len t x
    rw [List.foldl_cons, List.length_cons]
    omega
theorem read_len (l : List Rw) : (readD l).nodes.length ≤ l.length := by
  have := fold_len l zeroT
  unfold readD
  simpa [zeroT] using this
theorem read_snoc (l : List Rw) (x : Rw) : readD (l ++ [x]) = stepD (readD l) x := by
  unfold readD
  rw [List.foldl_append]
  rfl
theorem sv_at (b : UInt8) (k : Key) (w : World) : (Instr.index 9 (sv (b :: k)) (.int .i64 0)).run Tryd.prog w = .ok (.int .u8 (b.toNat : Int)) w := by
  unfold sv
  rw [run_index_string _ _ _ _ _ Tryd.underlying9]
  rw [dif_pos ⟨by decide, by simp [ByteArray.size]⟩]
  rfl
theorem sv_rest (b : UInt8) (k : Key) (w : World) : (Instr.slice 9 (sv (b :: k)) (some (.int .i64 1)) none none).run Tryd.prog w = .ok (sv k) w := by
  unfold sv
  rw [run_slice_string_l (P := Tryd.prog) w 9 _ Tryd.underlying9 .i64 1 (by decide) (by simp [ByteArray.size]; omega)]
  congr 2
  apply ByteArray.ext
  rw [ByteArray.data_extract]
  simp [ByteArray.size]
theorem und_rd8 : Tryd.prog.underlying 62 = some (.slice 5) := by rw [und_rd, el_rd]
theorem conv_rdr (k : Key) (hk : k.length ≤ 140737488355328) (w : World) : ∃ W c, (convert 9 62 (sv k)).run Tryd.prog w = .ok (.slice (some ⟨w.heap.size, 0, none⟩) k.length c) W ∧ Below w.heap.size w W ∧ BsV W (w.heap.size ≤ ·) (.slice (some ⟨w.heap.size, 0, none⟩) k.length c) k := by
  obtain ⟨s, hs⟩ : ∃ s : ByteArray, s = ⟨k.toArray⟩ := ⟨_, rfl⟩
  have hsz : s.size = k.length := by rw [hs]; simp [ByteArray.size]
  have hrun := run_bytes_of_string (P := Tryd.prog) w 9 62 5 s Tryd.underlying9 und_rd8 Tryd.underlying5
  have hge := grownCap_ge w s.size 0 5
  have hle := grownCap_le_maxLen w s.size 0 5 (by unfold maxLen; omega)
  generalize grownCap w s.size 0 5 = c at *
  refine ⟨_, c, by unfold sv; rw [← hs, ← hsz]; exact hrun, ((Below.refl _ _).drew).alloc (Nat.le_refl _) _, some ⟨w.heap.size, 0, none⟩, c, rfl, ?_, (fun h => by cases h), by rw [← hsz]; exact hge, hle⟩
  refine .inr ⟨w.heap.size, 0, rfl, Nat.le_refl _, fun j hj => ?_⟩
  have hw : (w.drew.alloc (.cells (bytesRow s c) 5 ((bytesRow s c).size, (bytesRow s c).size + 1))).heap[w.heap.size]? = some (.cells (bytesRow s c) 5 ((bytesRow s c).size, (bytesRow s c).size + 1)) := World.alloc_heap_new w.drew _
  rw [cell_of_row _ _ _ _ _ _ hw, Nat.zero_add]
  unfold bytesRow
  have hj' : j < s.data.size := by rw [hs]; simpa using hj
  rw [Array.getElem?_append_left (by simpa using hj'), Array.getElem?_map, Array.getElem?_eq_getElem hj']
  subst hs
  simp
theorem LoT.lower {w : World} {base b' L : Nat} {hd : List Value} {t : Tr} (h : LoT w base L hd t) (hb : b' ≤ base) : LoT w b' L hd t := by
  obtain ⟨nv, h1, h2, h3⟩ := h.nod
  exact ⟨h.len, ⟨nv, h1, (h2.base hb).mono fun q _ hq => ⟨Nat.le_trans hb hq.1, hq.2⟩, fun j hj => (h3 j hj).moves (fun _ _ _ => rfl) fun v hv => hv.mono fun q _ hq => ⟨⟨Nat.le_trans hb hq.1.1, hq.1.2⟩, hq.2⟩⟩, h.c1, h.c2, h.c3, h.four, h.big, h.sb⟩
/-- a reading, whichever it is -/
theorem kind_read (b0 : UInt8) (k v : List UInt8) (hk : isKind b0.toNat = true) : ∃ f, kindV b0.toNat = .func (.func f) #[] #[] ∧ (∀ args w, (callFunc f args).run Tryd.prog w = .ok (.enter f args) w) ∧
    ∀ (u : World) (N L : Nat) (hd : List Value) (F : Nat → Prop) (t : Tr), LdAt u F L hd k v → LoT u N L hd t → N ≤ u.heap.size → t.nodes.length ≤ 1000000 →
      Calls Tryd.prog f #[.pointer (some ⟨L, 0, none⟩)] u fun e w' => e = .returned (.tuple #[]) ∧ LoAt w' N L (stepD t (b0 :: k, v)) ∧ Turn u w' (fun q => N ≤ q ∨ q = L) := by
  have h0 : b0.toNat = 110 ∨ b0.toNat = 115 ∨ b0.toNat = 116 := by unfold isKind at hk; simpa using hk
  rcases h0 with h | h | h
  · refine ⟨56, by rw [h]; rfl, enters_of Tryd.func56 (by kernel_rfl) rfl, fun u N L hd F t h1 h2 h3 h4 => ?_⟩
    have e : stepD t (b0 :: k, v) = nodS t k v := by simp [stepD, h]
    rw [e]
    exact node_v L N hd k v F t u h1 h2 h3 h4
  · refine ⟨57, by rw [h]; rfl, enters_of Tryd.func57 (by kernel_rfl) rfl, fun u N L hd F t h1 h2 h3 h4 => ?_⟩
    have e : stepD t (b0 :: k, v) = sesS t k v := by simp [stepD, h]
    rw [e]
    exact session_v L N hd k v F t u h1 h2 h3
  · refine ⟨58, by rw [h]; rfl, enters_of Tryd.func58 (by kernel_rfl) rfl, fun u N L hd F t h1 h2 h3 h4 => ?_⟩
    have e : stepD t (b0 :: k, v) = restS t v := by simp [stepD, h]
    rw [e]
    exact rest_l L N hd k v F t u h1 h2 h3
theorem treeZ_one : ∀ v ∈ treeZ, v.oneCell' = true := by
  intro v hv
  simp [treeZ] at hv
  rcases hv with rfl | rfl | rfl | rfl | rfl | rfl | rfl | rfl | rfl | rfl | rfl | rfl | rfl <;> rfl
structure RowS (w6 : World) (L : Nat) (hd : List Value) (kv vv : Value) (kk : Key) (z : World) : Prop where
  tn : Turn w6 z (· = L)
  blk : Cs z L 64 (hd ++ [kv, vv]).toArray
  key : BsV z (w6.heap.size ≤ ·) kv kk
theorem kept_rows (w6 : World) (L : Nat) (hd : List Value) (kv vv : Value) (kk : Key) : Kept (RowS w6 L hd kv vv kk) := fun a b h hb =>
  ⟨h.tn.trans (Turn.of_below hb _) fun _ _ h => h, h.blk.below hb h.blk.lt, h.key.below hb⟩
set_option maxHeartbeats 32000000 in
theorem Load_r (l : List Rw) (v : Value) (F : Nat → Prop) (w : World) (hT : Tabs w) (h : LsW rowE w F v l) (hF : ∀ q, F q → q < w.heap.size) (hln : l.length ≤ 20000) (hs : SmallR l) :
    Calls Tryd.prog 17 #[v] w fun e w' => LoadRaw l w e w' := by
  have hmix : Tryd.prog.follows .mixedOrders = true := by kernel_rfl
  have HT := Lib.hid hT
  have HF := Lib.hid hF
  have HLN := Lib.hid hln
  have HS := Lib.hid hs
  have HL := Lib.hid h
  obtain ⟨A, c, rfl, hr, hlc, hcm, -⟩ := h
  have HR := Lib.hid hr
  have il : (l.length : Int) ≤ 20000 := by omega
  clear hT hF hln hs hr hlc hcm
  go_enter Tryd.func17, Tryd.ntmps17
  go_wp2_with (first
    | ((with_reducible show wpList _ _ _ _ _ w); refine wpList_allocS rfl 30 rfl treeZ treeZero ?_; intro g2 w1 hk1 hb1 hg1; go_frame; have C1 := Lib.hid hk1; have B1 := Lib.hid hb1; have G1 := Lib.hid hg1; clear hk1 hb1 hg1)
    | fail)
  refine (May_any l A c F w1 HS.out (HR.out.below B1.out)).mono ?_
  rintro e w2 ⟨rfl, hb⟩
  have B2 := Lib.hid (below_chain B1.out hb)
  have D2 := Lib.hid (C1.out.below hb C1.out.lt)
  clear hb
  obtain ⟨m, hm⟩ : ∃ m, m = mayP l := ⟨_, rfl⟩
  rw [← hm]
  have HM := Lib.hid hm
  clear hm
  cases m
  · have HNO := Lib.hid (show ¬ LoadP l from fun h => by have := h.may; rw [← HM.out] at this; cases this)
    go_wp2_with (first
      | ((with_reducible show wpList _ _ _ _ _ w2); refine wpList_storeS rfl 30 _ _ rfl g2 rfl treeZ treeZ rfl D2.out rfl treeZ_one infoTree ?_; intro w3 hk2 ht2; go_frame; have C3 := Lib.hid hk2; have T3 := Lib.hid ht2; clear hk2 ht2)
      | fail)
    refine bodyPost_ret (results_agg_tmp (P := Tryd.prog) (p := 2) (u := 3) (ty := 30) rfl _ _ g2 0 treeZ rfl (At.whole C3.out) _ Tryd.underlying30 rfl infoTree) rfl ?_
    exact ⟨.inr ⟨HNO.out, rfl⟩, below_turn B2.out T3.out B2.out.size G1.out⟩
  have HMP := Lib.hid (show mayP l = true from HM.out.symm)
  clear HM
  go_wp2_with (first
    | ((with_reducible show wpList _ _ _ _ _ w2); refine wpList_boxS rfl 64 _ rfl (treeZ ++ [.slice none 0 0, .slice none 0 0]) rfl ?_; intro L w3 hk1 hb1 hg1; go_frame; have C3 := Lib.hid hk1; have B3 := Lib.hid hb1; have G3 := Lib.hid hg1; clear hk1 hb1 hg1)
    | fail)
  refine (readings_v w3).mono ?_
  rintro e w4 ⟨rfl, hm4, hb⟩
  have FR := Lib.hid (show (L < w4.heap.size ∧ w3.heap.size < w4.heap.size ∧ w3.heap.size ≠ L) ∧ (g2 < w4.heap.size ∧ g2 ≠ L) ∧ w.heap.size ≤ L ∧ w.heap.size ≤ w4.heap.size ∧ w.heap.size ≤ g2 from by
    have h1 := C3.out.lt
    have h2 := hm4.lt
    have h3 := D2.out.lt
    have h4 := G3.out
    have h5 := B2.out.size
    have h6 := hb.size
    have h7 := G1.out
    have h8 := B3.out.size
    omega)
  have B4 := Lib.hid (below_chain (below_chain B2.out B3.out) hb)
  have C4 := Lib.hid (C3.out.below hb C3.out.lt)
  have D4 := Lib.hid ((D2.out.below B3.out D2.out.lt).below hb (Nat.lt_of_lt_of_le D2.out.lt B3.out.size))
  have M4 := Lib.hid hm4
  clear hb hm4
  obtain ⟨gm, hgm⟩ : ∃ gm, gm = w3.heap.size := ⟨_, rfl⟩
  rw [← hgm] at M4 FR ⊢
  clear hgm
  go_wp2_with fail
  go_loopw [19] (fun j wr => ∃ k : Nat, j = .int .i64 k ∧ k ≤ l.length ∧ LoAt wr w4.heap.size L (readD (l.take k)) ∧ Turn w4 wr (fun q => w4.heap.size ≤ q ∨ q = L) ∧ kindL (l.take k) = true) (fun j _ => l.length - (RowKit.intOf j).toNat)
  case atStart => exact ⟨0, rfl, Nat.zero_le _, ⟨treeZ, _, _, C4.out, LoT.zero _ _ _⟩, Turn.of_below (Below.refl _ _) _, rfl⟩
  case round =>
    obtain ⟨k, rfl, hk, hlo, ht, hkl⟩ := hrel
    have HT4 := Lib.hid ht
    have BW := Lib.hid (show Below w.heap.size w wr from B4.out.trans (ht.below FR.out.2.2.2.1 fun q hq => by have := FR.out; omega))
    have MR := Lib.hid (M4.out.turn ht (by have := FR.out; omega))
    have DR := Lib.hid (D4.out.turn ht (by have := FR.out; omega))
    have NR := Lib.hid (show w4.heap.size ≤ wr.heap.size from ht.size)
    have HKL := Lib.hid hkl
    have HLO := Lib.hid hlo
    clear ht hkl
    by_cases hlt : k < l.length
    · obtain ⟨b, off, xs, rfl, ⟨vv, rfl, hbv⟩, hat⟩ := (HR.out.below BW.out).get k hlt
      obtain ⟨A1, c1, rfl, -⟩ := hbv.parts
      have HAT := Lib.hid hat
      have HBV := Lib.hid hbv
      have HG := Lib.hid (((may_iff l).1 HMP.out).1 _ (List.getElem_mem hlt))
      have HNK := Lib.hid (show kindR l[k] = false → ¬ LoadP l from fun h0 h => by
        have := List.all_eq_true.1 h.kinds _ (List.getElem_mem hlt)
        rw [h0] at this
        cases this)
      have HRD := Lib.hid (show readD (l.take (k + 1)) = stepD (readD (l.take k)) l[k] by rw [take_snocB hlt, read_snoc])
      have HKN := Lib.hid (show kindR l[k] = true → kindL (l.take (k + 1)) = true from fun h0 => by
        have h1 := HKL.out
        unfold kindL at h1 ⊢
        rw [take_snocB hlt, List.all_append, h1]
        simp [h0])
      have HTN := Lib.hid (show (readD (l.take k)).nodes.length ≤ 1000000 by have h1 := read_len (l.take k); rw [List.length_take] at h1; have := HLN.out; omega)
      obtain ⟨t, htt⟩ : ∃ t, t = readD (l.take k) := ⟨_, rfl⟩
      rw [← htt] at hlo HRD HTN
      clear htt HLO HKL
      obtain ⟨hd, kv0, vv0, hc0, hlot⟩ := hlo
      have CL := Lib.hid hc0
      have LT := Lib.hid hlot
      generalize l[k] = x at *
      obtain ⟨key, val⟩ := x
      obtain ⟨b0, kk, rfl⟩ : ∃ b0 kk, key = b0 :: kk := by
        cases key with
        | nil => exact absurd rfl HG.out.1
        | cons b0 kk => exact ⟨b0, kk, rfl⟩
      obtain ⟨ky, hky⟩ : ∃ ky, ky = b0 :: kk := ⟨_, rfl⟩
      have HIX := Lib.hid (fun u => sv_at b0 kk u)
      have HSL := Lib.hid (fun u => sv_rest b0 kk u)
      have HLK := Lib.hid (fun u (h : RdM u gm) => rd_look h b0.toNat b0.toNat_lt)
      have HKK := Lib.hid (show kk.length ≤ 15 ∧ val.length ≤ 8192 from by have h1 := HG.out.2.1; have h2 := HG.out.2.2; simp at h1; exact ⟨by omega, h2⟩)
      simp only [] at HAT HBV
      rw [← hky] at HAT HIX HSL
      clear hc0 hlot hbv hat hky
      by_cases hki : isKind b0.toNat = true
      · obtain ⟨f, hf, eg, hct⟩ := kind_read b0 kk val hki
        have HK1 := Lib.hid (HKN.out hki)
        have HCT := Lib.hid hct
        rw [hki, hf] at HLK
        clear hct hf hki HKN HNK
        obtain ⟨bn, hbn⟩ : ∃ bn, bn = b0.toNat := ⟨_, rfl⟩
        rw [← hbn] at HLK HIX
        have i0 : (0 : Int) ≤ (bn : Int) := by omega
        clear hbn
        go_wp2_with (first
          | ((with_reducible show wpList _ _ _ _ _ wr); refine wpList_load_agg rfl 41 _ rfl b (off + k * 2) rfl [sv ky, .slice A1 val.length c1] HAT.out _ Tryd.underlying41 rfl (infoRw2 _ _) ?_; go_frame)
          | ((with_reducible show wpList _ _ _ _ _ wr); refine wpList_allocS rfl 41 rfl rwZero zeroRw ?_; intro g7 w5 hk1 hb1 hg1; go_frame; have C5 := Lib.hid hk1; have B5 := Lib.hid hb1; have G5 := Lib.hid hg1; clear hk1 hb1 hg1)
          | ((with_reducible show wpList _ _ _ _ _ w5); refine wpList_storeS rfl 41 _ _ rfl g7 rfl [sv ky, .slice A1 val.length c1] rwZero rfl C5.out rfl (one2r rfl rfl) (infoRw2 _ _) ?_; intro w6 hk2 ht2; go_frame; have C6 := Lib.hid hk2; have B6 := Lib.hid (below_turn B5.out ht2 B5.out.size G5.out); have q0 : w6.cell? ⟨g7, 0, none⟩ = some (sv ky) := hk2.cell 0 rfl; have hix := HIX.out w6; have hlk := HLK.out w6 (MR.out.below B6.out); clear hk2 ht2)
          | fail)
        clear q0 hix hlk
        have G7 := Lib.hid (show w4.heap.size ≤ g7 ∧ g7 ≠ L from by have h1 := G5.out; have h2 := NR.out; have h3 := FR.out; omega)
        have CL6 := Lib.hid (CL.out.below B6.out CL.out.lt)
        have LT6 := Lib.hid (LT.out.below B6.out)
        have HH := Lib.hid LT.out.len
        have T6 := Lib.hid (HT4.out.trans (Turn.of_below B6.out _) fun _ _ h => h)
        have BV6 := Lib.hid ((HBV.out.below B6.out).mono (G := fun q => F q ∧ q < w.heap.size) fun q _ hq => ⟨hq, HF.out q hq⟩)
        clear CL LT HT4 HBV
        refine wp_region_W (fun z => Cs z g7 41 [sv ky, .slice A1 val.length c1].toArray) ((fun z => Below w6.heap.size w6 z)) hmix ((Below.refl _ _).drew) ?_
        change wpAnyW _ _ _ _ _ _ _ _ _
        refine wpAnyW_take (i := 0) (v := .pointer (some ⟨L, 0, none⟩)) (kept_below _) (fun z h => C6.out.below h C6.out.lt) rfl (by kernel_rfl) (by kernel_rfl) (fun _ _ _ h => h) (DoesV.reads (by rfl) fun w9 hS => by go_simp) ?_
        try simp only [nrm, Act.put]
        refine wpAnyW_take (i := 1) (v := .pointer (some ⟨L, 0, none⟩)) (kept_below _) (fun z h => C6.out.below h C6.out.lt) rfl (by kernel_rfl) (by kernel_rfl) (fun _ _ _ h => h) (DoesV.reads (by rfl) fun w9 hS => by go_simp) ?_
        try simp only [nrm, Act.put]
        refine wpAnyW_take (i := 2) (v := .pointer (some ⟨g7, 0, none⟩)) (kept_below _) (fun z h => C6.out.below h C6.out.lt) rfl (by kernel_rfl) (by kernel_rfl) (fun _ _ _ h => h) (DoesV.reads (by rfl) fun w9 hS => by go_simp) ?_
        try simp only [nrm, Act.put]
        refine wpAnyW_take (i := 3) (v := sv ky) (kept_below _) (fun z h => C6.out.below h C6.out.lt) rfl (by kernel_rfl) (by kernel_rfl) (fun _ _ _ h => h) (DoesV.reads (by rfl) fun w9 hS => by have q9 : w9.cell? ⟨g7, 0, none⟩ = some (sv ky) := hS.cell 0 rfl; go_simp) ?_
        try simp only [nrm, Act.put]
        refine wpAnyW_take (i := 4) (v := sv kk) (kept_below _) (fun z h => C6.out.below h C6.out.lt) rfl (by kernel_rfl) (by kernel_rfl) (fun _ _ _ h => h) (DoesV.reads (by rfl) fun w9 hS => by have q9 := HSL.out w9; go_simp) ?_
        try simp only [nrm, Act.put]
        refine wpAnyW_take (i := 6) (v := .pointer (some ⟨g7, 1, none⟩)) (kept_below _) (fun z h => C6.out.below h C6.out.lt) rfl (by kernel_rfl) (by kernel_rfl) (fun _ _ _ h => h) (DoesV.reads (by rfl) fun w9 hS => by go_simp) ?_
        try simp only [nrm, Act.put]
        refine wpAnyW_take (i := 7) (v := .slice A1 val.length c1) (kept_below _) (fun z h => C6.out.below h C6.out.lt) rfl (by kernel_rfl) (by kernel_rfl) (fun _ _ _ h => h) (DoesV.reads (by rfl) fun w9 hS => by have q9 : w9.cell? ⟨g7, 1, none⟩ = some (.slice A1 val.length c1) := hS.cell 1 rfl; go_simp) ?_
        try simp only [nrm, Act.put]
        refine wpAnyW_only (i := 5) rfl (by kernel_rfl) rfl (fun u hS => ?_)
        obtain ⟨W, ck, hcv, hb, hbs⟩ := conv_rdr kk (by have := HKK.out; omega) u
        obtain ⟨Ak, hAk⟩ : ∃ Ak, Ak = some (⟨u.heap.size, 0, none⟩ : Addr) := ⟨_, rfl⟩
        rw [← hAk] at hcv hbs
        refine wp_of_run2 (v := .slice Ak kk.length ck) (w' := W) (by go_simp) ⟨(fun z => Below w6.heap.size w6 z ∧ BsV z (w6.heap.size ≤ ·) (.slice Ak kk.length ck) kk), ⟨below_chain hS hb, hbs.mono fun q _ hq => Nat.le_trans hS.size hq⟩, kept_and (kept_below _) (kept_bsv _ _ _), fun z h => C6.out.below h.1 C6.out.lt, ?_⟩
        clear hcv hb hbs hS hAk
        try simp only [nrm, Act.put]
        refine wpAnyW_take (i := 8) (v := .pointer (some ⟨L, 0, none⟩)) (kept_and (kept_below _) (kept_bsv _ _ _)) (fun z h => C6.out.below h.1 C6.out.lt) rfl (by kernel_rfl) (by kernel_rfl) (fun _ _ _ h => h) (DoesV.reads (by rfl) fun w9 hS => by go_simp) ?_
        try simp only [nrm, Act.put]
        refine wpAnyW_take (i := 9) (v := .pointer (some ⟨L, 16, none⟩)) (kept_and (kept_below _) (kept_bsv _ _ _)) (fun z h => C6.out.below h.1 C6.out.lt) rfl (by kernel_rfl) (by kernel_rfl) (fun _ _ _ h => h) (DoesV.reads (by rfl) fun w9 hS => by go_simp) ?_
        try simp only [nrm, Act.put]
        refine wpAnyW_only (i := 10) rfl (by kernel_rfl) rfl (fun u hS => wp_store1 62 _ _ rfl L 16 rfl (.slice Ak kk.length ck) rfl rfl infoRdr 64 _ (CL6.out.below hS.1 CL6.out.lt) (by have := HH.out; simp; omega) fun u' hk ht => ⟨RowS w6 L hd (.slice Ak kk.length ck) vv0 kk, ⟨(Turn.of_below hS.1 _).trans ht fun _ _ h => h, by rw [(ld_set HH.out).1] at hk; exact hk, hS.2.turn ht fun q hq e => by have h1 := CL6.out.lt; omega⟩, kept_rows _ _ _ _ _ _, fun z h => C6.out.turn h.tn (by have := G7.out; omega), ?_⟩)
        try simp only [nrm, Act.put]
        refine wpAnyW_take (i := 11) (v := .pointer (some ⟨L, 0, none⟩)) (kept_rows _ _ _ _ _ _) (fun z h => C6.out.turn h.tn (by have := G7.out; omega)) rfl (by kernel_rfl) (by kernel_rfl) (fun _ _ _ h => h) (DoesV.reads (by rfl) fun w9 hS => by go_simp) ?_
        try simp only [nrm, Act.put]
        refine wpAnyW_take (i := 12) (v := .pointer (some ⟨L, 17, none⟩)) (kept_rows _ _ _ _ _ _) (fun z h => C6.out.turn h.tn (by have := G7.out; omega)) rfl (by kernel_rfl) (by kernel_rfl) (fun _ _ _ h => h) (DoesV.reads (by rfl) fun w9 hS => by go_simp) ?_
        try simp only [nrm, Act.put]
        refine wpAnyW_only (i := 13) rfl (by kernel_rfl) rfl (fun u hS => wp_store1 62 _ _ rfl L 17 rfl (.slice A1 val.length c1) rfl rfl infoRdr 64 _ hS.blk (by have := HH.out; simp; omega) fun u' hk ht => ⟨RowS w6 L hd (.slice Ak kk.length ck) (.slice A1 val.length c1) kk, ⟨hS.tn.trans ht fun _ _ h => h, by rw [(ld_set HH.out).2] at hk; exact hk, hS.key.turn ht fun q hq e => by have h1 := CL6.out.lt; omega⟩, kept_rows _ _ _ _ _ _, fun z h => C6.out.turn h.tn (by have := G7.out; omega), ?_⟩)
        try simp only [nrm, Act.put]
        refine wpAnyW_done (by kernel_rfl) (fun wz hz => ?_) _
        obtain ⟨kvz, hkvz⟩ : ∃ kvz, kvz = Value.slice Ak kk.length ck := ⟨_, rfl⟩
        rw [← hkvz] at hz
        clear hkvz
        have KZ := Lib.hid hz
        clear hz
        have N6 := Lib.hid (Nat.le_trans NR.out B6.out.size)
        have LD := Lib.hid (show LdAt wz (fun q => (F q ∧ q < w.heap.size) ∨ w6.heap.size ≤ q) L hd kk val from ⟨kvz, .slice A1 val.length c1, KZ.out.blk, HH.out, KZ.out.key.mono fun q _ hq => .inr hq, (BV6.out.turn KZ.out.tn fun q hq e => by have := FR.out; omega).mono fun q _ hq => .inl hq, fun hh => by have h1 := FR.out; have h2 := N6.out; omega, by have := HKK.out; omega, by have := HKK.out; omega⟩)
        have LZ := Lib.hid (LT6.out.turnL KZ.out.tn)
        have TZ := Lib.hid (T6.out.trans KZ.out.tn fun _ _ e => .inr e)
        go_wp2_with (first
          | (go_at_fn f; refine (HCT.out wz w4.heap.size L hd _ t LD.out LZ.out (Nat.le_trans N6.out KZ.out.tn.size) HTN.out).mono ?_; rintro e w9 ⟨rfl, hlo9, ht9⟩; have LO9 := Lib.hid hlo9; have T9 := Lib.hid (TZ.out.trans ht9 fun _ _ h => h); clear hlo9 ht9)
          | fail)
        go_roundw
        case rel => exact ⟨k + 1, by go_num, hlt, by rw [HRD.out]; exact LO9.out, T9.out, HK1.out⟩
        case measure => simp [RowKit.intOf]; omega
      · have hki' : isKind b0.toNat = false := by simpa using hki
        have HNO := Lib.hid (HNK.out hki')
        rw [hki'] at HLK
        obtain ⟨bn, hbn⟩ : ∃ bn, bn = b0.toNat := ⟨_, rfl⟩
        rw [← hbn] at HLK HIX
        have i0 : (0 : Int) ≤ (bn : Int) := by omega
        clear hki hki' HKN HNK hbn
        obtain ⟨fv, hfv⟩ : ∃ fv, fv = kindV bn := ⟨_, rfl⟩
        rw [← hfv] at HLK
        clear hfv
        go_wp2_with (first
          | ((with_reducible show wpList _ _ _ _ _ wr); refine wpList_load_agg rfl 41 _ rfl b (off + k * 2) rfl [sv ky, .slice A1 val.length c1] HAT.out _ Tryd.underlying41 rfl (infoRw2 _ _) ?_; go_frame)
          | ((with_reducible show wpList _ _ _ _ _ wr); refine wpList_allocS rfl 41 rfl rwZero zeroRw ?_; intro g7 w5 hk1 hb1 hg1; go_frame; have C5 := Lib.hid hk1; have B5 := Lib.hid hb1; have G5 := Lib.hid hg1; clear hk1 hb1 hg1)
          | ((with_reducible show wpList _ _ _ _ _ w5); refine wpList_storeS rfl 41 _ _ rfl g7 rfl [sv ky, .slice A1 val.length c1] rwZero rfl C5.out rfl (one2r rfl rfl) (infoRw2 _ _) ?_; intro w6 hk2 ht2; go_frame; have C6 := Lib.hid hk2; have B6 := Lib.hid (below_turn B5.out ht2 B5.out.size G5.out); have q0 : w6.cell? ⟨g7, 0, none⟩ = some (sv ky) := hk2.cell 0 rfl; have hix := HIX.out w6; have hlk := HLK.out w6 (MR.out.below B6.out); have D6 := Lib.hid (DR.out.below B6.out DR.out.lt); clear hk2 ht2)
          | ((with_reducible show wpList _ _ _ _ _ w6); refine wpList_storeS rfl 30 _ _ rfl g2 rfl treeZ treeZ rfl D6.out rfl treeZ_one infoTree ?_; intro w7 hk2 ht2; go_frame; have C7 := Lib.hid hk2; have B7 := Lib.hid (below_turn (below_chain BW.out B6.out) ht2 (Nat.le_trans BW.out.size B6.out.size) FR.out.2.2.2.2); clear hk2 ht2)
          | fail)
        refine bodyPost_ret (results_agg_tmp (P := Tryd.prog) (p := 2) (u := 3) (ty := 30) rfl _ _ g2 0 treeZ rfl (At.whole C7.out) _ Tryd.underlying30 rfl infoTree) rfl ?_
        exact ⟨.inr ⟨HNO.out, rfl⟩, B7.out⟩
    · obtain rfl : k = l.length := by omega
      have HKA := Lib.hid (show kindL l = true by have := HKL.out; rwa [List.take_length] at this)
      rw [List.take_length] at hlo
      obtain ⟨hd, kv0, vv0, hc0, hlot⟩ := hlo
      have CL := Lib.hid hc0
      have LT := Lib.hid hlot
      have HH := Lib.hid hlot.len
      have HO1 := Lib.hid hlot.tr.one
      clear hc0 hlot HLO HKL
      have HSUB := Lib.hid (show ∀ j v, hd[j]? = some v → (hd ++ [kv0, vv0])[j]? = some v from fun j v hj => by
        have : j < hd.length := by
          rcases Nat.lt_or_ge j hd.length with h | h
          · exact h
          · rw [List.getElem?_eq_none h] at hj
            cases hj
        rw [List.getElem?_append_left this]
        exact hj)
      go_wp2_with (first
        | ((with_reducible show wpList _ _ _ _ _ wr); refine wpList_loadA (by rfl) 30 _ rfl L 0 rfl hd (fun j v hv => CL.out.cell (0 + j) (by simpa using HSUB.out j v hv)) _ Tryd.underlying30 rfl (by rw [HH.out]; exact infoTree) ?_; go_frame)
        | fail)
      refine (hasRows_v (readD l) l hd (.slice A l.length c) _ F wr (HT.out.below BW.out) LT.out.tr (LsW.below HL.out BW.out) HMP.out HLN.out).mono ?_
      rintro e w7 ⟨q, rfl, hq, hb⟩
      have HQ := Lib.hid hq
      have B7 := Lib.hid hb
      clear hq hb
      have D7 := Lib.hid (DR.out.below B7.out DR.out.lt)
      have BW7 := Lib.hid (BW.out.trans (B7.out.mono BW.out.size))
      cases q
      · have HNO := Lib.hid (show ¬ LoadP l from fun h => by have := HQ.out.2 ⟨h.whole, h.rows⟩; cases this)
        go_wp2_with (first
          | ((with_reducible show wpList _ _ _ _ _ w7); refine wpList_storeS rfl 30 _ _ rfl g2 rfl treeZ treeZ rfl D7.out rfl treeZ_one infoTree ?_; intro w8 hk2 ht2; go_frame; have C8 := Lib.hid hk2; have B8 := Lib.hid (below_turn BW7.out ht2 BW7.out.size FR.out.2.2.2.2); clear hk2 ht2)
          | fail)
        refine bodyPost_ret (results_agg_tmp (P := Tryd.prog) (p := 2) (u := 3) (ty := 30) rfl _ _ g2 0 treeZ rfl (At.whole C8.out) _ Tryd.underlying30 rfl infoTree) rfl ?_
        exact ⟨.inr ⟨HNO.out, rfl⟩, B8.out⟩
      · have HY := Lib.hid (show LoadP l from ⟨HMP.out, HKA.out, (HQ.out.1 rfl).1, (HQ.out.1 rfl).2⟩)
        have CL7 := Lib.hid (CL.out.below B7.out CL.out.lt)
        have LT7 := Lib.hid (LT.out.below B7.out)
        go_wp2_with (first
          | ((with_reducible show wpList _ _ _ _ _ w7); refine wpList_loadA (by rfl) 30 _ rfl L 0 rfl hd (fun j v hv => CL7.out.cell (0 + j) (by simpa using HSUB.out j v hv)) _ Tryd.underlying30 rfl (by rw [HH.out]; exact infoTree) ?_; go_frame)
          | ((with_reducible show wpList _ _ _ _ _ w7); refine wpList_storeS rfl 30 _ _ rfl g2 rfl hd treeZ rfl D7.out (by rw [HH.out]; rfl) HO1.out (by rw [HH.out]; exact infoTree) ?_; intro w8 hk2 ht2; go_frame; have C8 := Lib.hid hk2; have T8 := Lib.hid ht2; have B8 := Lib.hid (below_turn BW7.out ht2 BW7.out.size FR.out.2.2.2.2); clear hk2 ht2)
          | fail)
        refine bodyPost_ret (results_agg_tmp (P := Tryd.prog) (p := 2) (u := 3) (ty := 30) rfl _ _ g2 0 hd rfl (At.whole C8.out) _ Tryd.underlying30 rfl (by rw [HH.out]; exact infoTree)) rfl ?_
        exact ⟨.inl ⟨HY.out, L, hd, rfl, (LT7.out.turn T8.out fun q h1 h2 h3 e => by have := FR.out; omega).lower FR.out.2.2.2.1⟩, B8.out⟩
theorem Load_v (l : List Rw) (v : Value) (F : Nat → Prop) (w : World) (hT : Tabs w) (h : LsW rowE w F v l) (hln : l.length ≤ 20000) (hs : SmallR l) :
    Calls Tryd.prog 17 #[v] w fun e w' => LoadRaw l w e w' :=
  Load_r l v (fun q => F q ∧ q < w.heap.size) w hT (LsW.mono h fun q hq hF => ⟨hF, hq⟩) (fun q hq => hq.2) hln hs

end Go.Proofs.YtdhlejhflkfoaaaDoor
/- A tree's rows, plain: what reads them tells the tree; they are rows that may be. -/
namespace Go.Proofs.YtdhlejhflkfoaaaDoor
open Go.RowKit Go.Shelf
set_option linter.unusedVariables false
set_option maxRecDepth 100000
set_option linter.unusedSimpArgs false

theorem bcut (x P : Int) (hP : 0 < P) : x / P % 256 * P + x % P = x % (P * 256) := by
  have h1 := Int.mul_ediv_add_emod x P
  have h2 := Int.mul_ediv_add_emod (x / P) 256
  have h3 : x % (P * 256) = x - P * 256 * (x / (P * 256)) := by have := Int.mul_ediv_add_emod x (P * 256); omega
  have h4 : x / (P * 256) = x / P / 256 := by rw [Int.ediv_ediv_of_nonneg (by omega)]
  rw [h3, h4]
  generalize x / P = q at *
  generalize q / 256 = s at *
  generalize q % 256 = r at *
  have h5 : P * 256 * s = P * (256 * s) := Int.mul_assoc _ _ _
  have h6 : P * q = P * (256 * s) + P * r := by rw [← Int.mul_add]; congr 1; omega
  have h7 : r * P = P * r := Int.mul_comm _ _
  omega
theorem bdigits (x : Int) : ∀ k : Nat, beSum ((List.range k).map fun j => x / 256 ^ (k - 1 - j) % 256) = x % 256 ^ k
  | 0 => by simp [beSum]
  | k + 1 => by
    have hP : (0 : Int) < 256 ^ k := Int.pow_pos (by decide)
    rw [List.range_succ_eq_map, List.map_cons, List.map_map]
    simp only [beSum, List.length_map, List.length_range]
    have e : (List.range k).map ((fun j => x / 256 ^ (k + 1 - 1 - j) % 256) ∘ Nat.succ) = (List.range k).map fun j => x / 256 ^ (k - 1 - j) % 256 := by
      apply List.map_congr_left
      intro j hj
      have : k + 1 - 1 - (j + 1) = k - 1 - j := by omega
      simp only [Function.comp, Nat.succ_eq_add_one, this]
    rw [e, bdigits x k, Int.pow_succ, ← bcut x _ hP]
    rfl
theorem numD_put (x k : Nat) (r : List UInt8) (hx : x < 256 ^ k) : numD (beL (x : Int) k ++ r) k = x := by
  unfold numD
  rw [if_neg (by simp [beL_length]), List.take_left' (beL_length _ _)]
  have e : seg (beL (x : Int) k) 0 k = (List.range k).map fun j => (x : Int) / 256 ^ (k - 1 - j) % 256 := by
    apply List.map_congr_left
    intro j hj
    have hj' : j < k := List.mem_range.1 hj
    have hb : 0 ≤ (x : Int) / 256 ^ (k - 1 - j) % 256 ∧ (x : Int) / 256 ^ (k - 1 - j) % 256 < 256 := by omega
    have e1 : (beL (x : Int) k)[0 + j]? = some (UInt8.ofNat ((x : Int) / 256 ^ (k - 1 - j) % 256).toNat) := by
      rw [Nat.zero_add]
      simp [beL, hj']
    unfold byteAt
    rw [List.getD, e1, Option.getD_some, UInt8.toNat_ofNat']
    omega
  have h2 : ((256 ^ k : Nat) : Int) = (256 : Int) ^ k := by simp
  rw [e, bdigits, Int.emod_eq_of_lt (by omega) (by omega)]
  rfl
theorem numD_put0 (x k : Nat) (hx : x < 256 ^ k) : numD (beL (x : Int) k) k = x := by
  have := numD_put x k [] hx
  rwa [List.append_nil] at this
theorem drop_beL (x : Int) (k : Nat) (r : List UInt8) : (beL x k ++ r).drop k = r := List.drop_left' (beL_length _ _)
/-- numbers of a tree within their sizes -/
structure RngT (t : Tr) : Prop where
  nods : ∀ n ∈ t.nodes, n.ino < 4294967296 ∧ n.gen < 4294967296 ∧ n.chg < 18446744073709551616 ∧ ∀ e ∈ n.names, e.2 < 4294967296
  big : t.lastGen < 4294967296 ∧ t.boot < 4294967296 ∧ t.count < 4294967296
  sess : ∀ s ∈ t.sess, s.1 < 4294967296 ∧ s.2.1 < 18446744073709551616
  four : t.sess.length = 4
theorem namD_flat : ∀ (l : List Ent), (∀ e ∈ l, e.1.length ≤ 32 ∧ e.2 < 4294967296) → namD (l.flatMap entV) = l
  | [], _ => namD_nil
  | e :: l, h => by
    have h0 := h e (by simp)
    have hl := namD_flat l fun x hx => h x (List.mem_cons_of_mem _ hx)
    have hne : (e :: l).flatMap entV ≠ [] := fun h => by
      have := congrArg List.length h
      rw [List.flatMap_cons, List.length_append] at this
      simp [entV, beL_length] at this
    have e0 : (e :: l).flatMap entV = beL (e.1.length : Int) 1 ++ (e.1 ++ (beL (e.2 : Int) 4 ++ l.flatMap entV)) := by
      rw [List.flatMap_cons]
      simp [entV]
    rw [namD_cons hne, e0, drop_beL, numD_put _ 1 _ (by omega), List.take_left' rfl, List.drop_left' rfl, numD_put _ 4 _ (by omega), drop_beL, hl]
theorem nodV_is (n : Nd) : nodV n = beL (n.gen : Int) 4 ++ (beL (dirN n.dir : Int) 1 ++ (beL (n.chg : Int) 8 ++ (n.data ++ n.names.flatMap entV))) := by
  simp [nodV, nodH]
theorem dirN_lt (b : Bool) : dirN b < 256 := by cases b <;> decide
theorem drop_5 (v : List UInt8) : v.drop 5 = (v.drop 4).drop 1 := by rw [List.drop_drop]
theorem drop_13 (v : List UInt8) : v.drop 13 = ((v.drop 4).drop 1).drop 8 := by rw [List.drop_drop, List.drop_drop]
/-- what a good node's row reads as -/
theorem nodD_of {l : List Nd} {g top : Nat} {n : Nd} (h : NdOk l g top n) (h1 : n.ino < 4294967296) (h2 : n.gen < 4294967296) (h3 : n.chg < 18446744073709551616) (h4 : ∀ e ∈ n.names, e.2 < 4294967296) : nodD (beL (n.ino : Int) 4) (nodV n) = n := by
  have a0 : (nodV n).drop 4 = beL (dirN n.dir : Int) 1 ++ (beL (n.chg : Int) 8 ++ (n.data ++ n.names.flatMap entV)) := by rw [nodV_is, drop_beL]
  have a1 : numD (nodV n) 4 = n.gen := by rw [nodV_is, numD_put _ 4 _ (by omega)]
  have a2 : numD ((nodV n).drop 4) 1 = dirN n.dir := by rw [a0, numD_put _ 1 _ (by have := dirN_lt n.dir; omega)]
  have a3 : numD ((nodV n).drop 5) 8 = n.chg := by rw [drop_5, a0, drop_beL, numD_put _ 8 _ (by omega)]
  have a4 : (nodV n).drop 13 = n.data ++ n.names.flatMap entV := by rw [drop_13, a0, drop_beL, drop_beL]
  unfold nodD
  rw [numD_put0 _ 4 (by omega), a1, a2, a3, a4]
  obtain ⟨ino, gen, dir, chg, data, names⟩ := n
  cases dir
  · have := h.file rfl
    simp only at this
    subst this
    simp [dirN]
  · have := h.isDir rfl
    simp only at this
    subst this
    simp only [dirN, if_true, decide_true, List.nil_append]
    rw [namD_flat names fun e he => ⟨name_lenB (h.good e he).1, h4 e he⟩]
theorem sesD_of {s : Ses} (h1 : s.1 < 4294967296) (h2 : s.2.1 < 18446744073709551616) : sesD (sesV s) = s := by
  have e0 : sesV s = beL (s.1 : Int) 4 ++ (beL (s.2.1 : Int) 8 ++ s.2.2) := by simp [sesV]
  have e1 : (sesV s).drop 12 = ((sesV s).drop 4).drop 8 := by rw [List.drop_drop]
  unfold sesD
  rw [e1, e0, drop_beL, drop_beL, numD_put _ 4 _ (by omega), numD_put _ 8 _ (by omega)]
theorem restS_of (t0 t : Tr) (h : t.lastGen < 4294967296 ∧ t.boot < 4294967296 ∧ t.count < 4294967296) : restS t0 (rstV t) = { t0 with lastGen := t.lastGen, boot := t.boot, count := t.count } := by
  have e0 : rstV t = beL (t.lastGen : Int) 4 ++ (beL (t.boot : Int) 4 ++ beL (t.count : Int) 4) := by simp [rstV]
  have e1 : (rstV t).drop 8 = ((rstV t).drop 4).drop 4 := by rw [List.drop_drop]
  unfold restS
  rw [e1, e0, drop_beL, drop_beL, numD_put _ 4 _ (by omega), numD_put _ 4 _ (by omega), numD_put0 _ 4 (by omega)]
/-- any reading by steps that read a good node, a session, the rest as they were laid, tells the tree -/
structure Reads (st : Tr → Rw → Tr) : Prop where
  node : ∀ (t0 : Tr) (l : List Nd) (g top : Nat) (n : Nd), NdOk l g top n → n.ino < 4294967296 → n.gen < 4294967296 → n.chg < 18446744073709551616 → (∀ e ∈ n.names, e.2 < 4294967296) → st t0 (nodR n) = { t0 with nodes := t0.nodes ++ [n] }
  ses : ∀ (t0 : Tr) (i : Nat) (s : Ses), i < 4 → s.1 < 4294967296 → s.2.1 < 18446744073709551616 → st t0 (sesR i s) = { t0 with sess := t0.sess.set i s }
  rest : ∀ (t0 t : Tr), t.lastGen < 4294967296 ∧ t.boot < 4294967296 ∧ t.count < 4294967296 → st t0 (rstR t) = { t0 with lastGen := t.lastGen, boot := t.boot, count := t.count }
theorem Reads.nodes {st : Tr → Rw → Tr} (R : Reads st) {l : List Nd} {g top : Nat} : ∀ (ns : List Nd) (t0 : Tr), (∀ n ∈ ns, NdOk l g top n) → (∀ n ∈ ns, n.ino < 4294967296 ∧ n.gen < 4294967296 ∧ n.chg < 18446744073709551616 ∧ ∀ e ∈ n.names, e.2 < 4294967296) → (ns.map nodR).foldl st t0 = { t0 with nodes := t0.nodes ++ ns }
  | [], t0, _, _ => by simp
  | n :: ns, t0, h, k => by
    have k0 := k n (by simp)
    rw [List.map_cons, List.foldl_cons, R.node t0 l g top n (h n (by simp)) k0.1 k0.2.1 k0.2.2.1 k0.2.2.2, Reads.nodes R ns _ (fun x hx => h x (List.mem_cons_of_mem _ hx)) (fun x hx => k x (List.mem_cons_of_mem _ hx))]
    simp
theorem Reads.sess {st : Tr → Rw → Tr} (R : Reads st) : ∀ (ss : List Ses) (t0 : Tr) (pre : List Ses), t0.sess = pre ++ List.replicate ss.length ((0, 0, []) : Ses) → pre.length + ss.length ≤ 4 → (∀ s ∈ ss, SesOk s ∧ s.1 < 4294967296 ∧ s.2.1 < 18446744073709551616) → (sesL pre.length ss).foldl st t0 = { t0 with sess := pre ++ ss }
  | [], t0, pre, h, _, _ => by
    unfold sesL
    rw [List.length_nil, List.replicate_zero] at h
    rw [List.foldl_nil, ← h]
  | s :: ss, t0, pre, h, hl, k => by
    have k0 := k s (by simp)
    have hk : ∀ x ∈ ss, SesOk x ∧ x.1 < 4294967296 ∧ x.2.1 < 18446744073709551616 := fun x hx => k x (List.mem_cons_of_mem _ hx)
    rw [List.length_cons] at hl h
    have hp : (pre ++ [s]).length = pre.length + 1 := by simp
    unfold sesL
    by_cases hz : s.1 = 0
    · rw [if_pos hz, List.nil_append]
      have hs : s = (0, 0, []) := by
        have := k0.1.2 hz
        obtain ⟨a, b, c⟩ := s
        simp only at hz this
        rw [hz, this.1, this.2]
      have := Reads.sess R ss t0 (pre ++ [s]) (by rw [h, List.replicate_succ, hs, List.append_assoc]; rfl) (by omega) hk
      rw [hp] at this
      rw [this]
      simp
    · rw [if_neg hz, List.foldl_append, List.foldl_cons, List.foldl_nil, R.ses t0 pre.length s (by omega) k0.2.1 k0.2.2]
      have hset : t0.sess.set pre.length s = pre ++ s :: List.replicate ss.length ((0, 0, []) : Ses) := by
        rw [h, List.set_append_right _ _ (Nat.le_refl _), Nat.sub_self, List.replicate_succ, List.set_cons_zero]
      have := Reads.sess R ss { t0 with sess := t0.sess.set pre.length s } (pre ++ [s]) (by rw [hset, List.append_assoc]; rfl) (by omega) hk
      rw [hp] at this
      rw [this]
      simp
theorem Reads.back {st : Tr → Rw → Tr} (R : Reads st) {t : Tr} (h : WholeT t) (k : RngT t) : (rowsT t).foldl st zeroT = t := by
  unfold rowsT
  rw [List.foldl_append, List.foldl_append, R.nodes t.nodes zeroT h.may.ok k.nods]
  have h1 := R.sess t.sess { zeroT with nodes := zeroT.nodes ++ t.nodes } [] (by rw [k.four]; rfl) (by rw [k.four]; decide) fun s hs => ⟨h.ses s hs, k.sess s hs⟩
  rw [List.length_nil] at h1
  rw [h1, List.foldl_cons, List.foldl_nil, R.rest _ t k.big]
  simp [zeroT]
theorem reads_step : Reads stepD where
  node t0 l g top n h h1 h2 h3 h4 := by
    have e : stepD t0 (nodR n) = nodS t0 (beL (n.ino : Int) 4) (nodV n) := rfl
    rw [e]
    unfold nodS
    rw [nodD_of h h1 h2 h3 h4]
  ses t0 i s hi h1 h2 := by
    have e : stepD t0 (sesR i s) = sesS t0 (beL (i : Int) 1) (sesV s) := rfl
    rw [e]
    unfold sesS
    rw [numD_put0 i 1 (by omega), if_pos hi, sesD_of h1 h2]
  rest t0 t h := by
    have e : stepD t0 (rstR t) = restS t0 (rstV t) := rfl
    rw [e, restS_of t0 t h]
theorem read_rows {t : Tr} (h : WholeT t) (k : RngT t) : readD (rowsT t) = t := reads_step.back h k
/-- keys rise -/
theorem beL_consB (x : Int) (k : Nat) : beL x (k + 1) = UInt8.ofNat (x / 256 ^ k % 256).toNat :: beL x k := by
  unfold beL
  rw [List.range_succ_eq_map, List.map_cons, List.map_map]
  congr 1
  apply List.map_congr_left
  intro j hj
  simp only [Function.comp, Nat.succ_eq_add_one]
  have : k + 1 - 1 - (j + 1) = k - 1 - j := by omega
  rw [this]
theorem beL_less : ∀ (k x y : Nat), x % 256 ^ k < y % 256 ^ k → beL (x : Int) k < beL (y : Int) k
  | 0, x, y, h => by simp [Nat.mod_one] at h
  | k + 1, x, y, h => by
    rw [beL_consB, beL_consB, List.cons_lt_cons_iff]
    have hP : 0 < 256 ^ k := Nat.pow_pos (by decide)
    have hx : x % 256 ^ (k + 1) = (x / 256 ^ k % 256) * 256 ^ k + x % 256 ^ k := by rw [Nat.pow_succ, Nat.mod_mul, Nat.add_comm, Nat.mul_comm]
    have hy : y % 256 ^ (k + 1) = (y / 256 ^ k % 256) * 256 ^ k + y % 256 ^ k := by rw [Nat.pow_succ, Nat.mod_mul, Nat.add_comm, Nat.mul_comm]
    have cx : ((x : Int) / 256 ^ k % 256).toNat = x / 256 ^ k % 256 := by
      have : (x : Int) / 256 ^ k % 256 = ((x / 256 ^ k % 256 : Nat) : Int) := by simp
      rw [this]
      rfl
    have cy : ((y : Int) / 256 ^ k % 256).toNat = y / 256 ^ k % 256 := by
      have : (y : Int) / 256 ^ k % 256 = ((y / 256 ^ k % 256 : Nat) : Int) := by simp
      rw [this]
      rfl
    rw [cx, cy]
    rw [hx, hy] at h
    have mx := Nat.mod_lt x hP
    have my := Nat.mod_lt y hP
    have qx : x / 256 ^ k % 256 < 256 := Nat.mod_lt _ (by decide)
    have qy : y / 256 ^ k % 256 < 256 := Nat.mod_lt _ (by decide)
    have ih := beL_less k x y
    generalize x / 256 ^ k % 256 = a at *
    generalize y / 256 ^ k % 256 = b at *
    generalize x % 256 ^ k = r at *
    generalize y % 256 ^ k = s at *
    generalize 256 ^ k = P at *
    rcases Nat.lt_trichotomy a b with h1 | h1 | h1
    · left
      rw [UInt8.lt_iff_toNat_lt, UInt8.toNat_ofNat', UInt8.toNat_ofNat']
      omega
    · right
      subst h1
      exact ⟨rfl, ih (by omega)⟩
    · exfalso
      have : (b + 1) * P ≤ a * P := Nat.mul_le_mul_right _ h1
      rw [Nat.add_mul] at this
      omega
theorem beL_less' {k x y : Nat} (h : x < y) (hy : y < 256 ^ k) : beL (x : Int) k < beL (y : Int) k := beL_less k x y (by rw [Nat.mod_eq_of_lt (by omega), Nat.mod_eq_of_lt hy]; exact h)
theorem key_less (c : UInt8) {a b : Key} (h : a < b) : lessK (c :: a) (c :: b) = true := by
  unfold lessK
  rw [decide_eq_true_eq, List.cons_lt_cons_iff]
  exact .inr ⟨rfl, h⟩
theorem key_head {c d : UInt8} (h : c < d) (a b : Key) : lessK (c :: a) (d :: b) = true := by
  unfold lessK
  rw [decide_eq_true_eq, List.cons_lt_cons_iff]
  exact .inl h
theorem ses_rise : ∀ (ss : List Ses) (i : Nat), i + ss.length ≤ 256 → SortR (sesL i ss)
  | [], i, _ => by unfold sesL; exact List.Pairwise.nil
  | s :: ss, i, h => by
    rw [List.length_cons] at h
    have ih := ses_rise ss (i + 1) (by omega)
    unfold sesL
    by_cases hz : s.1 = 0
    · rw [if_pos hz, List.nil_append]
      exact ih
    · rw [if_neg hz, List.singleton_append]
      refine List.pairwise_cons.2 ⟨fun y hy => ?_, ih⟩
      obtain ⟨j, s', -, h1, h2, rfl, -⟩ := mem_sesL hy
      exact key_less 115 (beL_less' (by omega) (by omega))
theorem rows_may {t : Tr} (h : WholeT t) (k : RngT t) : mayP (rowsT t) = true := by
  refine (may_iff _).2 ⟨fun x hx => ⟨?_, by have := rows_keys hx; omega, ?_⟩, ?_⟩
  · unfold rowsT at hx
    rw [List.mem_append, List.mem_append] at hx
    rcases hx with (hx | hx) | hx
    · obtain ⟨n, -, rfl⟩ := List.mem_map.1 hx
      exact List.cons_ne_nil _ _
    · obtain ⟨j, s, -, -, -, rfl, -⟩ := mem_sesL hx
      exact List.cons_ne_nil _ _
    · rw [List.mem_singleton.1 hx]
      exact List.cons_ne_nil _ _
  · unfold rowsT at hx
    rw [List.mem_append, List.mem_append] at hx
    rcases hx with (hx | hx) | hx
    · obtain ⟨n, hn, rfl⟩ := List.mem_map.1 hx
      have ok := h.may.ok n hn
      have h1 := ents_len (l := n.names) fun e he => name_lenB (ok.good e he).1
      have h2 := ok.size
      have h3 := ok.many
      show (nodV n).length ≤ 8192
      unfold nodV
      rw [List.length_append, nodH_len]
      omega
    · obtain ⟨j, s, hs, -, -, rfl, -⟩ := mem_sesL hx
      have := (h.ses s hs).1
      show (sesV s).length ≤ 8192
      simp [sesV, beL_length]
      omega
    · rw [List.mem_singleton.1 hx]
      show (rstV t).length ≤ 8192
      simp [rstV, beL_length]
  · unfold rowsT
    refine List.pairwise_append.2 ⟨List.pairwise_append.2 ⟨?_, ses_rise _ _ (by rw [k.four]; decide), fun x hx y hy => ?_⟩, List.pairwise_singleton _ _, fun x hx y hy => ?_⟩
    · rw [List.pairwise_map]
      refine h.may.rise.imp_of_mem fun {a b} ha hb hab => ?_
      exact key_less 110 (beL_less' hab (by have := (k.nods b hb).1; omega))
    · obtain ⟨n, -, rfl⟩ := List.mem_map.1 hx
      obtain ⟨j, s, -, -, -, rfl, -⟩ := mem_sesL hy
      exact key_head (by decide) _ _
    · rw [List.mem_singleton.1 hy]
      rw [List.mem_append] at hx
      rcases hx with hx | hx
      · obtain ⟨n, -, rfl⟩ := List.mem_map.1 hx
        exact key_head (by decide) _ _
      · obtain ⟨j, s, -, -, -, rfl, -⟩ := mem_sesL hx
        exact key_head (by decide) _ _
theorem rows_kinds (t : Tr) : kindL (rowsT t) = true := by
  unfold kindL
  rw [List.all_eq_true]
  intro x hx
  unfold rowsT at hx
  rw [List.mem_append, List.mem_append] at hx
  rcases hx with (hx | hx) | hx
  · obtain ⟨n, -, rfl⟩ := List.mem_map.1 hx
    rfl
  · obtain ⟨j, s, -, -, -, rfl, -⟩ := mem_sesL hx
    rfl
  · rw [List.mem_singleton.1 hx]
    rfl
/-- rows are loaded if, and only if, they are a whole tree's -/
theorem load_iff {l : List Rw} : (∃ t, RngT t ∧ WholeT t ∧ rowsT t = l) → LoadP l := fun ⟨t, k, h, e⟩ => by
  subst e
  refine ⟨rows_may h k, rows_kinds t, ?_, ?_⟩
  · rw [read_rows h k]; exact h
  · rw [read_rows h k]
theorem LoT.rng {w : World} {base L : Nat} {hd : List Value} {t : Tr} (h : LoT w base L hd t) : RngT t := by
  obtain ⟨nv, h1, h2, h3⟩ := h.nod
  refine ⟨fun n hn => ?_, h.big, fun s hs => ⟨(h.sb s hs).1, (h.sb s hs).2.1⟩, h.four⟩
  obtain ⟨i, hi, rfl⟩ := List.getElem_of_mem hn
  obtain ⟨A, c, rfl, hr, -⟩ := LsV.ndB h2.form
  obtain ⟨b, off, xs, -, ⟨dv, nv', -, -, hnm, k1, k2, k3⟩, -⟩ := hr.get i hi
  refine ⟨k1, k2, k3, fun e he => ?_⟩
  obtain ⟨j, hj, rfl⟩ := List.getElem_of_mem he
  obtain ⟨A2, c2, rfl, hr2, -⟩ := hnm
  obtain ⟨b2, off2, xs2, -, hx2, -⟩ := hr2.get j hj
  exact hx2.2
theorem TrAt.rng {w : World} {F : Nat → Prop} {cs : List Value} {t : Tr} (h : TrAt w F cs t) : RngT t := by
  obtain ⟨nv, ss, e, ⟨A, c, rfl, hr, -⟩, hse, hl4, hl12, hbig⟩ := h
  have hsb : ∀ s ∈ t.sess, s.1 < 4294967296 ∧ s.2.1 < 18446744073709551616 ∧ s.2.2.length ≤ 140737488355328 := by
    obtain ⟨x0, x1, x2, x3, a0, a1, a2, a3, he, -, -, -, -, -, hb⟩ := hse.four hl4 hl12
    exact hb
  refine ⟨fun n hn => ?_, hbig, fun s hs => ⟨(hsb s hs).1, (hsb s hs).2.1⟩, hl4⟩
  obtain ⟨i, hi, rfl⟩ := List.getElem_of_mem hn
  obtain ⟨b, off, xs, -, ⟨dv, nv', -, -, hnm, k1, k2, k3⟩, -⟩ := hr.get i hi
  refine ⟨k1, k2, k3, fun e he => ?_⟩
  obtain ⟨j, hj, rfl⟩ := List.getElem_of_mem he
  obtain ⟨A2, c2, rfl, hr2, -⟩ := hnm
  obtain ⟨b2, off2, xs2, -, hx2, -⟩ := hr2.get j hj
  exact hx2.2

end Go.Proofs.YtdhlejhflkfoaaaDoor
/- The reference of layer 2: point. -/
namespace Go.Proofs.YtdhlejhflkfoaaaDoor
open Go.RowKit Go.Shelf Go.Lib Go.ChangeShapes Go.WideShapes Go.ChangeAt
set_option linter.unusedVariables false

end Go.Proofs.YtdhlejhflkfoaaaDoor
/- The reference of layer 2: Runes, Is. -/
namespace Go.Proofs.YtdhlejhflkfoaaaDoor
open Go.RowKit Go.Shelf Go.Lib Go.ChangeShapes Go.WideShapes Go.ChangeAt
set_option linter.unusedVariables false
set_option maxRecDepth 100000

/-- the bytes up to k may stand -/
def OkI (s : ByteArray) (k : Nat) : Prop := k ≤ s.size ∧ ((L s).take k).all okByte = true
theorem L_get (s : ByteArray) (k : Nat) (h : k < s.size) : s[k] = (L s)[k]'(by rw [← L_size]; exact h) := by
  cases s; rfl
theorem OkI.next {s : ByteArray} {k : Nat} (h : OkI s k) (hk : k < s.size) (hc : okByte s[k] = true) : OkI s (k + 1) := by
  refine ⟨hk, ?_⟩
  rw [List.take_succ_eq_append_getElem (by rw [← L_size]; exact hk), List.all_append, h.2, ← L_get s k hk]
  simp [hc]
theorem OkI.over {s : ByteArray} {k : Nat} (h : OkI s k) (hk : ¬ k < s.size) : (L s).all okByte = true := by
  have := h.2
  rwa [List.take_of_length_le (by rw [← L_size]; omega)] at this

end Go.Proofs.YtdhlejhflkfoaaaDoor
/- A tree's nodes as they are read. -/
namespace Go.Proofs.YtdhlejhflkfoaaaDoor
open Go.RowKit Go.Shelf
set_option linter.unusedVariables false
set_option maxRecDepth 100000
set_option linter.unusedSimpArgs false

theorem At.later {w w' : World} {b off : Nat} {cs : List Value} (h : At w b off cs) (hb : Below w.heap.size w w') : At w' b off cs := fun j v hv => (hb.cell (lt_of_cell (h j v hv))).trans (h j v hv)
/-- where the walk stops -/
def Stop (p : Prop) : Prop := p
theorem TrAt.nodes {w : World} {F : Nat → Prop} {cs : List Value} {t : Tr} (h : TrAt w F cs t) : ∃ A c, cs[0]? = some (.slice A t.nodes.length c) ∧ cs[2]? = some (.int .u32 (t.boot : Int)) ∧ cs[3]? = some (.int .u32 (t.count : Int)) ∧ RdX nodeE w F A t.nodes ∧ t.boot < 4294967296 ∧ t.count < 4294967296 := by
  obtain ⟨nv, ss, rfl, ⟨A, c, rfl, h1, -⟩, -, -, -, h2, h3, h4⟩ := h
  exact ⟨A, c, rfl, rfl, rfl, h1, h3, h4⟩
theorem NdAt.head {w : World} {F : Nat → Prop} {ds : List Value} {n : Nd} (h : NdAt w F ds n) : ds[0]? = some (.int .u32 (n.ino : Int)) ∧ ds[1]? = some (.int .u32 (n.gen : Int)) ∧ ds[3]? = some (.int .u64 (n.chg : Int)) ∧ n.ino < 4294967296 ∧ n.gen < 4294967296 ∧ n.chg < 18446744073709551616 := by
  obtain ⟨dv, nv, rfl, -, -, h1, h2, h3⟩ := h
  exact ⟨rfl, rfl, rfl, h1, h2, h3⟩
end Go.Proofs.YtdhlejhflkfoaaaDoor
/- The reference's May, in pieces: where an Ino stands; in how many directories it is. (In the trial seat these are the program's own: m. is for the package.) -/
namespace Go.Proofs.YtdhlejhflkfoaaaDoor
open Go.RowKit Go.Shelf
set_option linter.unusedVariables false
set_option maxRecDepth 100000
set_option linter.unusedSimpArgs false

/-- a tree's nodes, at a world behind -/
structure NodesAt (w : World) (F : Nat → Prop) (A : Option Addr) (c : Nat) (t : Tr) : Prop where
  rd : RdX nodeE w F A t.nodes
  cap : t.nodes.length ≤ c
  max : c ≤ maxLen
theorem TrAt.box {w : World} {F : Nat → Prop} {cs : List Value} {t : Tr} (h : TrAt w F cs t) : ∃ A c, cs[0]? = some (.slice A t.nodes.length c) ∧ NodesAt w F A c t := by
  obtain ⟨nv, ss, rfl, ⟨A, c, rfl, h1, h4, h5, -⟩, -⟩ := h
  exact ⟨A, c, rfl, h1, h4, h5⟩
end Go.Proofs.YtdhlejhflkfoaaaDoor
/- The reference's May, plain: from each node up to the root. Of no program. -/
namespace Go.Proofs.YtdhlejhflkfoaaaDoor
open Go.RowKit Go.Shelf
set_option linter.unusedVariables false
set_option maxRecDepth 100000
set_option linter.unusedSimpArgs false

end Go.Proofs.YtdhlejhflkfoaaaDoor
/- The reference's May: rooted. -/
namespace Go.Proofs.YtdhlejhflkfoaaaDoor
open Go.RowKit Go.Shelf
set_option linter.unusedVariables false
set_option maxRecDepth 100000
set_option linter.unusedSimpArgs false

end Go.Proofs.YtdhlejhflkfoaaaDoor
/- The reference's May: a directory's names. -/
namespace Go.Proofs.YtdhlejhflkfoaaaDoor
open Go.RowKit Go.Shelf
set_option linter.unusedVariables false
set_option maxRecDepth 100000
set_option linter.unusedSimpArgs false

/-- the first k names may be -/
def NamI (t : Tr) (l : List Ent) (k : Nat) : Prop := (∀ j (hj : j < l.length), j < k → nameL l[j].1 = true ∧ l[j].2 ∈ inosL t.nodes) ∧ ∀ j (hj : j + 1 < l.length), j + 1 < k → lessK l[j].1 l[j + 1].1 = true
structure NamOk (t : Tr) (l : List Ent) : Prop where
  all : NamI t l l.length
  many : l.length ≤ 32
theorem NamI.next {t : Tr} {l : List Ent} {k : Nat} (h : NamI t l k) (hk : k < l.length) (h1 : nameL l[k].1 = true) (h2 : l[k].2 ∈ inosL t.nodes) (h3 : ∀ (h : 0 < k), lessK (l[k - 1]'(by omega)).1 l[k].1 = true) : NamI t l (k + 1) := by
  refine ⟨fun j hj hjk => ?_, fun j hj hjk => ?_⟩
  · by_cases e : j = k
    · subst e; exact ⟨h1, h2⟩
    · exact h.1 j hj (by omega)
  · by_cases e : j + 1 = k
    · subst e; exact h3 (by omega)
    · exact h.2 j hj (by omega)
end Go.Proofs.YtdhlejhflkfoaaaDoor
/- The reference's May, plain: what its tests say. Of no program. -/
namespace Go.Proofs.YtdhlejhflkfoaaaDoor
open Go.RowKit Go.Shelf
set_option linter.unusedVariables false
set_option maxRecDepth 100000
set_option linter.unusedSimpArgs false

/-- the tests of one node -/
structure NodOk (t : Tr) (j : Nat) (n : Nd) : Prop where
  up : ∀ (h : 0 < j) (hj : j - 1 < t.nodes.length), (t.nodes[j - 1]).ino < n.ino
  gen1 : 1 ≤ n.gen
  gen2 : n.gen ≤ t.lastGen
  chg : n.chg ≤ topT t
  size : n.data.length ≤ 4096
  isDir : n.dir = true → n.data = []
  file : n.dir = false → n.names = []
  nam : NamOk t n.names
  gens : ∀ k (hk : k < t.nodes.length), k < j → t.nodes[k].gen ≠ n.gen
/-- the tests of a tree -/
structure HeadOk (t : Tr) : Prop where
  boot1 : 1 ≤ t.boot
  boot2 : t.boot ≤ 2147483648
  last1 : 1 ≤ t.lastGen
  len1 : 1 ≤ t.nodes.length
  len2 : t.nodes.length ≤ 64
  root : ∀ (h : 0 < t.nodes.length), t.nodes[0].ino = 1 ∧ t.nodes[0].gen = 1 ∧ t.nodes[0].dir = true
theorem sortE_all {l : List Ent} (h : ∀ j (hj : j + 1 < l.length), lessK l[j].1 l[j + 1].1 = true) : SortE l := by
  refine List.pairwise_iff_getElem.2 fun i j hi hj hij => ?_
  induction j with
  | zero => omega
  | succ j ih =>
    by_cases e : i = j
    · subst e; exact h i hj
    · exact lessK_trans (ih (by omega) (by omega)) (h j hj)
theorem NamOk.good {t : Tr} {l : List Ent} (h : NamOk t l) : SortE l ∧ ∀ e ∈ l, nameL e.1 = true ∧ e.2 ∈ inosL t.nodes :=
  ⟨sortE_all fun j hj => h.all.2 j hj (by omega), fun e he => by obtain ⟨j, hj, rfl⟩ := List.getElem_of_mem he; exact h.all.1 j hj hj⟩
theorem NamOk.of {t : Tr} {l : List Ent} (h1 : SortE l) (h2 : ∀ e ∈ l, nameL e.1 = true ∧ e.2 ∈ inosL t.nodes) (h3 : l.length ≤ 32) : NamOk t l :=
  ⟨⟨fun j hj _ => h2 _ (List.getElem_mem hj), fun j hj _ => List.pairwise_iff_getElem.1 h1 j (j + 1) (by omega) hj (by omega)⟩, h3⟩
theorem MayT.head {t : Tr} (h : MayT t) : HeadOk t := by
  obtain ⟨r, hr, r1, r2, r3⟩ := h.root
  have hl : 0 < t.nodes.length := List.length_pos_of_mem hr
  have e : t.nodes[0] = r := by
    obtain ⟨j, hj, rfl⟩ := List.getElem_of_mem hr
    by_cases hj0 : j = 0
    · subst hj0; rfl
    · have h1 := List.pairwise_iff_getElem.1 h.rise 0 j hl hj (by omega)
      have h2 := (h.ok _ (List.getElem_mem hl)).pos
      omega
  exact ⟨h.boot1, h.boot2, h.last1, hl, h.many, fun _ => by rw [e]; exact ⟨r1, r2, r3⟩⟩
theorem MayT.nod {t : Tr} (h : MayT t) (j : Nat) (hj : j < t.nodes.length) : NodOk t j t.nodes[j] := by
  have k := h.ok _ (List.getElem_mem hj)
  exact ⟨fun h0 h1 => List.pairwise_iff_getElem.1 h.rise (j - 1) j h1 hj (by omega), k.gen1, k.gen2, k.chg, k.size, k.isDir, k.file, NamOk.of k.sort k.good k.many, fun i hi hij => List.pairwise_iff_getElem.1 h.gens i j hi hj hij⟩
end Go.Proofs.YtdhlejhflkfoaaaDoor
/- The reference's May. -/
namespace Go.Proofs.YtdhlejhflkfoaaaDoor
open Go.RowKit Go.Shelf
set_option linter.unusedVariables false
set_option maxRecDepth 100000
set_option linter.unusedSimpArgs false

end Go.Proofs.YtdhlejhflkfoaaaDoor
/- The reference: whether a tree is whole. -/
namespace Go.Proofs.YtdhlejhflkfoaaaDoor
open Go.RowKit Go.Shelf
set_option linter.unusedVariables false
set_option maxRecDepth 100000
set_option linter.unusedSimpArgs false

end Go.Proofs.YtdhlejhflkfoaaaDoor
/- The reference: a whole tree's rows. -/
namespace Go.Proofs.YtdhlejhflkfoaaaDoor
open Go.RowKit Go.Shelf
set_option linter.unusedVariables false
set_option maxRecDepth 100000
set_option linter.unusedSimpArgs false

def RowsRetR (t : Tr) (w : World) (e : Ending) (w' : World) : Prop := ((WholeT t ∧ ∃ v, e = .returned (.tuple #[v, .int .i64 0]) ∧ OwnX rowE w' w.heap.size (w.heap.size ≤ ·) v (rowsT t)) ∨ (¬ WholeT t ∧ e = .returned (.tuple #[.slice none 0 0, .int .i64 2]))) ∧ Below w.heap.size w w'
end Go.Proofs.YtdhlejhflkfoaaaDoor
/- The reference: a number at a place; the names of bytes. -/
namespace Go.Proofs.YtdhlejhflkfoaaaDoor
open Go.RowKit Go.Shelf
set_option linter.unusedVariables false
set_option maxRecDepth 100000
set_option linter.unusedSimpArgs false

/-- the names of bytes, as far as there are some -/
def namG (l : List UInt8) : List Ent :=
  match l with
  | [] => []
  | b :: r => if r.length < b.toNat + 4 then [] else ((r.take b.toNat), numD (r.drop b.toNat) 4) :: namG ((r.drop b.toNat).drop 4)
termination_by l.length
decreasing_by simp; omega
theorem namG_nil : namG [] = [] := by unfold namG; rfl
theorem namG_cons (b : UInt8) (r : List UInt8) : namG (b :: r) = if r.length < b.toNat + 4 then [] else ((r.take b.toNat), numD (r.drop b.toNat) 4) :: namG ((r.drop b.toNat).drop 4) := by rw [namG]
theorem beL_one (x : Nat) (h : x < 256) : beL (x : Int) 1 = [UInt8.ofNat x] := by
  rw [beL_consB]
  simp [beL]
  congr 1
  omega
theorem namG_flat : ∀ (l : List Ent), (∀ e ∈ l, e.1.length ≤ 32 ∧ e.2 < 4294967296) → namG (l.flatMap entV) = l
  | [], _ => namG_nil
  | e :: l, h => by
    have h0 := h e (by simp)
    have hl := namG_flat l fun x hx => h x (List.mem_cons_of_mem _ hx)
    have e0 : (e :: l).flatMap entV = UInt8.ofNat e.1.length :: (e.1 ++ (beL (e.2 : Int) 4 ++ l.flatMap entV)) := by
      rw [List.flatMap_cons]
      simp [entV, beL_one _ (show e.1.length < 256 by omega)]
    have e1 : (UInt8.ofNat e.1.length).toNat = e.1.length := by rw [UInt8.toNat_ofNat']; omega
    rw [e0, namG_cons, e1, if_neg (by simp [beL_length]), List.take_left' rfl, List.drop_left' rfl, numD_put _ 4 _ (by omega), drop_beL, hl]
end Go.Proofs.YtdhlejhflkfoaaaDoor
