/- SWEPT -/
import Derived.StringKeys
import Derived.Test.YtfgbpinfplllgaaGreatDoorZStTable
set_option linter.unusedVariables false
set_option linter.unusedSimpArgs false
open Go.Lib (hid)
namespace Go.Proofs.YtfgbpinfplllgaaGreatDoor
open Go.RowKit Go.Shelf Go.Maps Go.Sort
set_option maxRecDepth 100000
theorem rdx_notmap {w : World} {F : Nat → Prop} {A : Option Addr} {ls : List Ch} {b : Nat} {es c} (h : RdX chgE w F A ls) (hb : w.heap[b]? = some (.map es c)) : RdX chgE w (fun k => F k ∧ k ≠ b) A ls := by
  by_cases h0 : ls = []
  · exact .inl h0
  · rcases h with h | ⟨b', off, xs, e, hF, ⟨hl, hr⟩, hc⟩
    · exact .inl h
    · refine .inr ⟨b', off, xs, e, ⟨hF, fun e' => ?_⟩, ⟨hl, fun j hj => ?_⟩, hc⟩
      · subst e'
        have hpos : 0 < xs.length := by
          rw [hl]
          have := List.length_pos_iff.2 h0
          show 0 < ls.length * 3
          omega
        have := hc 0 _ (List.getElem?_eq_getElem hpos)
        simp [World.cell?, hb] at this
      · obtain ⟨v, h1, h2⟩ := hr j hj
        exact ⟨v, h1, h2.notmap hb⟩
theorem MapT.block {w : World} {b n : Nat} {cs : List Ch} (h : MapT w b n cs) : ∃ es c, w.heap[b]? = some (.map es c) := by
  obtain ⟨D, ⟨es, clock, hb, _⟩, _⟩ := h
  exact ⟨es, clock, hb⟩
theorem get_len {b : List UInt8} {l : List Ch} (h : getC b = .ok l) : l.length ≤ b.length := by
  have key : ∀ (l : List Ch) (last : Key), mayCFrom last l = true → l.length ≤ (putFrom last l).length := by
    intro l
    induction l with
    | nil => intro last _; exact Nat.zero_le _
    | cons x l ih =>
      intro last hm
      unfold mayCFrom at hm
      rw [Bool.and_eq_true] at hm
      have h1 := one_len hm.1
      have h2 := ih _ hm.2
      unfold putFrom
      rw [List.length_append, List.length_cons]
      omega
  have := get_back h
  rw [← this.2]
  exact key l [] this.1
theorem may_small {l : List Ch} (h : mayCP l = true) (hl : l.length ≤ 100000000) : SmallC l := ⟨by omega, fun x hx => by have := (((mayC_iff l).1 h).1 x hx).1.2.1; omega⟩
theorem get_keys {b : List UInt8} {l : List Ch} (h : getC b = .ok l) : ∀ x ∈ l, x.1.length ≤ 16 := fun x hx => (((mayC_iff l).1 (get_back h).1).1 x hx).1.2.1
theorem wrap0_v (t : ByteArray) (w : World) : Calls Tryz.prog 86 #[.string t, .int .i64 0] w fun e w' => e = .returned .nilIface ∧ Below w.heap.size w w' :=
  (wrap_v t 0 w).mono fun e w' ⟨v, h1, h2, h3⟩ => by
    rcases h2 with ⟨_, rfl⟩ | ⟨h, _⟩
    · exact ⟨h1, h3⟩
    · exact absurd rfl h
set_option maxHeartbeats 8000000 in
theorem tableOf_v (K : K7) {base : Nat} {F : Nat → Prop} {v : Value} {bts : List (List UInt8)} (w : World) (ho : OwnR w base F v bts) (hl : bts.length ≤ 8192) (hb : ∀ b ∈ bts, b.length ≤ 1000000) (hsum : ∀ bs, decs bts = some bs → bs.flatten.length ≤ 20000) :
    Calls Tryz.prog 88 #[v] w fun e w' => TabRet bts w e w' := by
  obtain ⟨Av, cv, rfl, hrd, hf1, hf2, hf3⟩ := ho.form
  have HRD := hid hrd
  have HBB := hid hb
  have HSUM := hid hsum
  have HK := hid K
  have HL := hid hl
  have hli : (bts.length : Int) ≤ 8192 := by omega
  have hmm := @run_makeMap Tryz.prog
  clear hrd hf1 hf2 hf3 ho hb hsum K hl
  go_enter Tryz.func88, Tryz.ntmps88
  go_wp2_with fail
  have hb1 := (Below.refl w.heap.size w).alloc (Nat.le_refl _) (.map #[] 0)
  have hmt := MapT.new w
  have hz : w.heap.size < (w.alloc (.map #[] 0)).heap.size := by simp
  generalize w.alloc (.map #[] 0) = w1 at *
  generalize hmb : w.heap.size = mb at hmt ⊢
  have HMB := hid hmb
  have HM0 := hid hmt
  have B1 := hid hb1
  clear hb1 hmt hz hmm
  go_loopw [16] (fun i wr => ∃ (k : Nat) (bs : List (List Ch)), i = .int .i64 (k : Int) ∧ k ≤ bts.length ∧ decs (bts.take k) = some bs ∧ bs.flatten.length ≤ k * 1000000 ∧ MapT wr mb bs.flatten.length bs.flatten ∧ Below w.heap.size w wr) (fun i _ => bts.length - (RowKit.intOf i).toNat)
  case atStart => exact ⟨0, [], rfl, Nat.zero_le _, rfl, Nat.zero_le _, HM0.out, B1.out⟩
  case round =>
    obtain ⟨k, bs, rfl, hk0, hds, hfl, hmt, hbl⟩ := hrel
    have HDS := hid hds
    have HFL := hid hfl
    have HMT := hid hmt
    have HBL := hid hbl
    clear hds hfl hmt hbl
    by_cases hk : k < bts.length
    · have hk' : (k : Int) < (bts.length : Int) := by omega
      have hget := HRD.out.get k hk
      have hbl := HBB.out _ (List.getElem_mem hk)
      have htk : bts.take (k + 1) = bts.take k ++ [bts[k]] := by rw [List.take_add_one, List.getElem?_eq_getElem hk]; rfl
      have HTK := hid htk
      have hbad := fun (e : Int) (h : getC bts[k] = .error e) => decs_bad hk h
      have HBAD := hid hbad
      have HKL := hid hk
      clear htk hbad
      generalize bts[k] = b at *
      obtain ⟨bb, off, A', c', rfl, hcell, hbf, hbn, hb1, hb2⟩ := hget
      have cc := (HBL.out.cell (lt_of_cell hcell)).trans hcell
      have hbv : BsV wr anyB (.slice A' b.length c') b := ⟨A', c', rfl, ((hbf.rd).keep fun p u hu => (HBL.out.cell (lt_of_cell hu)).trans hu).f fun _ _ _ _ => trivial, hbn, hb1, hb2⟩
      have HG := hid (HK.out.get b (.slice A' b.length c') anyB wr (by omega) hbv)
      clear hcell hbf hbn hb1 hb2 hbv
      go_wp2_with fail
      cases hgc : getC b with
      | error er =>
        have hne : er ≠ 0 := get_err hgc
        refine (HG.out.mono fun _ _ h => h.err hgc).mono ?_
        rintro e w2 ⟨A2, c2, rfl, -, hb2⟩
        have B2 := hid (HBL.out.trans (hb2.mono HBL.out.size))
        have hd := HBAD.out er hgc
        have HD := hid hd
        have hq : (er == 0) = false := by simpa using hne
        clear hb2 hgc hd hne hbl
        go_wp2_with fail
        go_ret2
        refine ⟨B2.out.alloc B2.out.size _, ?_⟩
        rw [HD.out]
        exact ⟨_, rfl⟩
      | ok l =>
        have hgl := get_len hgc
        have HOK := hid hgc
        refine (HG.out.mono fun _ _ h => h.has hgc).mono ?_
        rintro e w2 ⟨A2, c2, rfl, hls, hb2⟩
        have B2 := hid (HBL.out.trans (hb2.mono HBL.out.size))
        have M2 := hid (HMT.out.below hb2)
        obtain ⟨-, hrx, hc1, hc2, -⟩ := hls.at
        obtain ⟨es0, cl0, hbk⟩ := M2.out.block
        have R2 := hid (rdx_notmap hrx hbk)
        have hll : l.length ≤ 1000000 := by omega
        have hll' : (l.length : Int) ≤ 1000000 := by omega
        have HC := hid (And.intro hc1 hc2)
        clear hb2 hgc hls hrx hbk hgl hc1 hc2 hbl
        go_wp2_with fail
        go_loopw [36] (fun i ws => ∃ j : Nat, i = .int .i64 (j : Int) ∧ j ≤ l.length ∧ MapT ws mb (bs.flatten ++ l.take j).length (bs.flatten ++ l.take j) ∧ RdX chgE ws (fun k => anyB k ∧ k ≠ mb) A2 l ∧ Below w.heap.size w ws) (fun i _ => l.length - (RowKit.intOf i).toNat)
        case atStart => exact ⟨0, rfl, Nat.zero_le _, by rw [List.take_zero, List.append_nil]; exact M2.out, R2.out, B2.out⟩
        case round =>
          obtain ⟨j, rfl, hj0, hmt, hrx, hbl⟩ := hrel
          have HM := hid hmt
          have HR := hid hrx
          have HB := hid hbl
          clear hmt hrx hbl
          by_cases hj : j < l.length
          · have hj' : (j : Int) < (l.length : Int) := by omega
            obtain ⟨b5, o5, A1, c1, rfl, hat, hbf5, hbn5, hx1, hx2⟩ := chg_rd HR.out j hj
            have HAT := hid hat
            have hkey := get_keys HOK.out _ (List.getElem_mem hj)
            have htj : l.take (j + 1) = l.take j ++ [l[j]] := by rw [List.take_add_one, List.getElem?_eq_getElem hj]; rfl
            have HTJ := hid htj
            have HBV := hid (show BsV wr (fun k => anyB k ∧ k ≠ mb) (.slice A1 l[j].2.1.length c1) l[j].2.1 from ⟨A1, c1, rfl, hbf5, hbn5, hx1, hx2⟩)
            have hlen : (bs.flatten ++ l.take j).length ≤ 10000000000 := by
              have := HFL.out
              rw [List.length_append, List.length_take]
              have : k * 1000000 ≤ 8192 * 1000000 := Nat.mul_le_mul_right _ (by omega)
              omega
            have HLEN := hid hlen
            have HJ := hid hj
            clear hat hbf5 hbn5 hx1 hx2 htj hlen
            generalize l[j] = x at *
            have HKX := hid (Go.WideMaps.keyOf_string_mk (P := Tryz.prog) Tryz.underlying9 (s := ⟨x.1.toArray⟩) (by simp only [maxLen]; show x.1.toArray.size ≤ _; simp; omega))
            go_wp2_with (first
              | ((with_reducible show wpList _ _ _ _ _ wr); refine wpList_load_agg rfl 73 _ rfl b5 (o5 + j * 3) rfl (chCells x A1 c1) HAT.out _ Tryz.underlying73 rfl (infoCh x A1 c1) ?_; go_frame)
              | ((with_reducible show wpList _ _ _ _ _ wr); refine wpList_allocS rfl 73 rfl _ zeroCh ?_; intro g1 w3 hk1 hb1 hg1; go_frame; have K1 := hid hk1; have B3 := hid hb1; have G1 := hid hg1; clear hk1 hb1 hg1)
              | ((with_reducible show wpList _ _ _ _ _ w3); refine wpList_storeS rfl 73 _ _ rfl g1 rfl (chCells x A1 c1) chZero rfl K1.out rfl (chCells_one x A1 c1) (infoCh x A1 c1) ?_; intro w4 hk2 ht2; go_frame; have K2 := hid hk2; have B4 := hid (below_turn B3.out ht2 B3.out.size G1.out); have cc0 := hk2.cell 0 rfl; clear hk2 ht2)
              | ((with_reducible show wpList _ _ _ _ _ w4); at_mapUpdate
                 obtain ⟨D, q1, q2, q3⟩ := HM.out.below B4.out
                 have HBV4 := hid (HBV.out.below B4.out)
                 have Q2 := hid q2
                 have Q3 := hid q3
                 clear q2 q3
                 refine wpList_mapUpdate_own _ rfl _ _ _ 185 rfl 9 73 skeyed Tryz.underlying185 chgElem mb (bs.flatten ++ l.take j).length D rfl q1 (by have := HLEN.out; simp only [maxLen]; omega) (.string ⟨x.1.toArray⟩) (.agg (chCells x A1 c1).toArray) (.string x.1) rfl rfl HKX.out (.held (enc3 ⟨x.1, A1, x.2.1.length, c1, x.2.2⟩)) [] rfl ?_
                 intro w5 hown5 hg5
                 have M5 := hid (MapT.put (c := x) (p := ⟨x.1, A1, x.2.1.length, c1, x.2.2⟩) q1.isMap Q2.out Q3.out hown5 hg5 rfl ⟨_, rfl, HBV4.out.mono fun _ _ h => h.2⟩)
                 have G5 := hid hg5
                 clear q1 hown5 hg5
                 go_frame)
              | ((with_reducible show wpList _ _ _ _ _ w4); refine wpList_loadS rfl 73 _ rfl g1 rfl (chCells x A1 c1) K2.out _ Tryz.underlying73 rfl (infoCh x A1 c1) ?_; go_frame))
            have T5 := (Turn.of_below B4.out (fun k => some mb = some k)).trans (Turn.of_grown G5.out) fun _ _ h => h
            have hnb : ∀ k, (anyB k ∧ k ≠ mb) → ¬ (some mb = some k) := fun k hk e => hk.2 (by cases e; rfl)
            go_roundw
            case rel =>
              refine ⟨j + 1, by go_num, HJ.out, ?_, HR.out.turn T5 hnb, (HB.out.trans (B4.out.mono HB.out.size)).trans ((Turn.of_grown G5.out).below (HB.out.trans (B4.out.mono HB.out.size)).size fun k e => by cases e; omega)⟩
              rw [HTJ.out, ← List.append_assoc, List.length_append]
              exact M5.out
            case measure => have := HJ.out; simp [RowKit.intOf]; omega
          · obtain rfl : j = l.length := by omega
            go_wp2_with fail
            go_roundw
            case rel =>
              have hd1 : decs (bts.take (k + 1)) = some (bs ++ [l]) := by rw [HTK.out, decs_snoc, HDS.out, HOK.out]
              have hfl : (bs ++ [l]).flatten = bs.flatten ++ l := by simp
              have hM := HM.out
              rw [List.take_length] at hM
              refine ⟨k + 1, bs ++ [l], by go_num, HKL.out, hd1, ?_, by rw [hfl]; exact hM, HB.out⟩
              rw [hfl, List.length_append]
              have := HFL.out
              omega
            case measure => have := HKL.out; simp [RowKit.intOf]; omega
    · obtain rfl : k = bts.length := by omega
      have h1 := HDS.out
      rw [List.take_length] at h1
      have HD := hid h1
      clear h1
      go_wp2_with fail
      have hfl := HSUM.out bs HD.out
      have HV := hid (Values_v mb wr)
      refine HV.out.mono ?_
      rintro e w2 ⟨rfl, rfl⟩
      have hb2 := (Below.refl wr.heap.size wr).alloc (Nat.le_refl _) (.cells #[.map (some mb)] 185)
      have hbox : (wr.alloc (.cells #[.map (some mb)] 185)).cell? ⟨wr.heap.size, 0, none⟩ = some (.map (some mb)) := by simp
      have B2 := hid (HBL.out.trans (hb2.mono HBL.out.size))
      obtain ⟨D, q1, q2, q3⟩ := HMT.out.below hb2
      generalize hBm : wr.heap.size = Bm at *
      generalize wr.alloc (.cells #[.map (some mb)] 185) = w2 at *
      have hsz : Maps.size D ≤ 20000 := Nat.le_trans q1.size_le hfl
      have hsf := sortedFunc_v Bm mb _ D q2 (by omega) w2 hbox q1
      have Q3 := hid q3
      have HSF := hid hsf
      clear q1 q2 q3 hb2 hbox hsf HV
      go_wp2_with fail
      refine HSF.out.mono ?_
      rintro e w3 ⟨v, qs, rfl, hall, hsrt, hb3, hv⟩
      obtain ⟨r1, r2, r3⟩ := rows_of Q3.out hall hsrt
      have hqs : qs.length ≤ 20000 := Nat.le_trans hall.2.1 hsz
      have r4 : ∀ p ∈ qs, chgE.rd w3 (· ≠ mb) (cells3 p) (chOf bs.flatten p) := fun p hp => chgE.turn (r3 p hp) (Turn.of_below hb3 fun _ => False) fun _ _ h => h
      have hok := told_ok (decs_ok.1 HD.out)
      obtain ⟨t1, t2⟩ := table_of hok r1 r2
      have B3 := hid (B2.out.trans (hb3.mono B2.out.size))
      have hls : LsV chgE w3 anyB v (qs.map (chOf bs.flatten)) := by
        rcases hv with ⟨rfl, rfl⟩ | ⟨g, cap, rfl, _, h1, h2, h3⟩
        · exact LsV.nil _ _
        · exact list_of r4 h3 h1 h2
      have hap := HK.out.apply [] (qs.map (chOf bs.flatten)) (.slice none 0 0) v anyB anyB w3 ⟨Nat.zero_le _, fun x hx => by cases hx⟩ (may_small t1 (by rw [List.length_map]; omega)) (Nat.zero_le _) (by rw [List.length_map]; exact hqs) (LsV.nil _ _) hls
      have hv1 : v.oneCell' = true := by
        obtain ⟨A, c, rfl, _⟩ := hls
        rfl
      have HAP := hid (hap.mono fun _ _ h => h.yes (by rw [t1]; rfl))
      have T2 := hid t2
      clear hall hsrt hb3 hv r1 r2 r3 r4 hok t1 t2 hls hap Q3 HSF
      go_wp2_with fail
      refine HAP.out.mono ?_
      rintro e w4 ⟨A4, c4, rfl, hl4, hb4⟩
      have B4 := hid (B3.out.trans (hb4.mono B3.out.size))
      have L4 := hid (hl4.mono fun k _ hk => Nat.le_trans B3.out.size hk)
      have HW := hid (fun t => wrap0_v t w4)
      clear hl4 hb4 HAP
      go_wp2_with fail
      refine (HW.out _).mono ?_
      rintro e w5 ⟨rfl, hb5⟩
      have L5 := hid (L4.out.below hb5)
      have B5 := hid (B4.out.trans (hb5.mono B4.out.size))
      clear hb5
      go_wp2_with fail
      go_ret2
      refine ⟨B5.out, ?_⟩
      rw [HD.out]
      rw [T2.out] at *
      exact ⟨_, rfl, L5.out⟩
end Go.Proofs.YtfgbpinfplllgaaGreatDoor
