/- What layer 7's program answers: Put, Get, May, MayChange, Shared, Find, Apply, Between. -/
import Derived.Test.YtiemphfikfigdaaBatKE
import Derived.Test.YtiemphfikfigdaaBatRK
namespace Go.Proofs.Ytiemphfikfigdaa
open Go.RowKit Go.Shelf
set_option linter.unusedVariables false
set_option maxRecDepth 100000
set_option linter.unusedSimpArgs false

theorem LsV.mono {α : Type} {E : Elem α} {w : World} {F G : Nat → Prop} {v : Value} {ls : List α} (h : LsV E w F v ls) (hF : ∀ k, k < w.heap.size → F k → G k) : LsV E w G v ls := by
  obtain ⟨A, c, h1, h2, h3⟩ := h
  exact ⟨A, c, h1, h2.mono hF, h3⟩
theorem OutX.new {α : Type} {E : Elem α} {B : Nat} {w : World} (hB : B ≤ w.heap.size) : OutX E B w.heap.size (w.alloc (.cells #[.slice none 0 0] E.sty)) [] := ⟨_, Cs.new _ _ _, OwnX.nil _ _ _⟩
theorem OutX.cell {α : Type} {E : Elem α} {B G : Nat} {w : World} {ls : List α} (h : OutX E B G w ls) : ∃ v, w.cell? ⟨G, 0, none⟩ = some v ∧ LsV E w (B ≤ ·) v ls := by
  obtain ⟨v, h1, h2⟩ := h
  exact ⟨v, h1.cell 0 rfl, h2.ls.mono fun k _ h => h.1⟩
theorem mayP_vals {t : List Rw} (h : mayP t = true) : ∀ x ∈ t, x.2.length ≤ 8192 := fun x hx => (((may_iff t).1 h).1 x hx).2.2
theorem mayC_vals {t : List Ch} (h : mayCP t = true) : ∀ x ∈ t, x.2.1.length ≤ 8192 := fun x hx => (((mayC_iff t).1 h).1 x hx).1.2.2
set_option maxHeartbeats 4000000 in
theorem Apply_any (t : List Rw) (l : List Ch) (v u : Value) (F G : Nat → Prop) (w : World) (hs : SmallR t) (hs2 : SmallC l) (ht : t.length ≤ 1000) (hl : l.length ≤ 1000) (hr : LsV rowE w F v t) (hr2 : LsV chgE w G u l) :
    Calls Try.prog 21 #[v, u] w fun e w' => P7Apply t l w e w' := by
  obtain ⟨A, c, rfl, hra, hca, hcm, -⟩ := hr
  obtain ⟨B, d, rfl, hrb, hdb, hdm, -⟩ := hr2
  have hm1 := fun u hb => May_any t A c F u hs (hra.below hb)
  have hm2 := fun u hb => MayC_any l B d G u hs2 (hrb.below hb)
  have HA := Lib.hid (And.intro hra hrb)
  have HC := Lib.hid (And.intro hca hdb)
  unfold P7Apply
  obtain ⟨m1, h1⟩ : ∃ m, mayP t = m := ⟨_, rfl⟩
  obtain ⟨m2, h2⟩ : ∃ m, mayCP l = m := ⟨_, rfl⟩
  rw [h1] at hm1
  rw [h2] at hm2
  rw [h1, h2]
  have M1 := Lib.hid hm1
  have M2 := Lib.hid hm2
  have H1 := Lib.hid h1
  have H2 := Lib.hid h2
  clear hs hs2 hra hrb hca hdb hcm hdm hm1 hm2 h1 h2
  cases m1
  · go_enter Try.func21, Try.ntmps21
    go_wp2_with fail
    refine (M1.out w (Below.refl _ _)).mono ?_
    rintro e w1 ⟨rfl, hb⟩
    go_wp2_with fail
    go_ret2
    exact ⟨hb, _, rfl, LsV.nil _ _⟩
  · cases m2
    · go_enter Try.func21, Try.ntmps21
      go_wp2_with fail
      refine (M1.out w (Below.refl _ _)).mono ?_
      rintro e w1 ⟨rfl, hb⟩
      go_wp2_with fail
      refine (M2.out w1 hb).mono ?_
      rintro e w2 ⟨rfl, hb2⟩
      go_wp2_with fail
      go_ret2
      exact ⟨below_chain hb hb2, _, rfl, LsV.nil _ _⟩
    · have HM := Lib.hid (merge_apply H1.out H2.out)
      go_enter Try.func21, Try.ntmps21
      go_wp2_with fail
      refine (M1.out w (Below.refl _ _)).mono ?_
      rintro e w1 ⟨rfl, hb⟩
      go_wp2_with fail
      refine (M2.out w1 hb).mono ?_
      rintro e w2 ⟨rfl, hb2⟩
      have B2 := Lib.hid (below_chain hb hb2)
      clear hb hb2
      go_wp2_with fail
      refine (side_apply t l A B c d F G w2.heap.size w _ (mayP_vals H1.out) (mayC_vals H2.out) (by omega) HC.out.1 HC.out.2 HA.out.1 HA.out.2 (B2.out.alloc B2.out.size _) B2.out.size (OutX.new (E := rowN) B2.out.size)).mono ?_
      rintro e w3 ⟨⟨v3, rfl⟩, ho, hb3⟩
      obtain ⟨v4, hc4, hv4⟩ := ho.cell
      have B3 := Lib.hid hb3
      have V4 := Lib.hid hv4
      clear ho hb3 hv4
      go_wp2_with fail
      go_ret2
      refine ⟨B3.out, _, rfl, ?_⟩
      have := V4.out
      rw [HM.out] at this
      exact this
set_option maxHeartbeats 4000000 in
theorem Between_any (t : List Rw) (l : List Rw) (v u : Value) (F G : Nat → Prop) (w : World) (hs : SmallR t) (hs2 : SmallR l) (ht : t.length ≤ 1000) (hl : l.length ≤ 1000) (hr : LsV rowE w F v t) (hr2 : LsV rowE w G u l) :
    Calls Try.prog 26 #[v, u] w fun e w' => P7Betw t l w e w' := by
  obtain ⟨A, c, rfl, hra, hca, hcm, -⟩ := hr
  obtain ⟨B, d, rfl, hrb, hdb, hdm, -⟩ := hr2
  have hm1 := fun u hb => May_any t A c F u hs (hra.below hb)
  have hm2 := fun u hb => May_any l B d G u hs2 (hrb.below hb)
  have HA := Lib.hid (And.intro hra hrb)
  have HC := Lib.hid (And.intro hca hdb)
  unfold P7Betw
  obtain ⟨m1, h1⟩ : ∃ m, mayP t = m := ⟨_, rfl⟩
  obtain ⟨m2, h2⟩ : ∃ m, mayP l = m := ⟨_, rfl⟩
  rw [h1] at hm1
  rw [h2] at hm2
  rw [h1, h2]
  have M1 := Lib.hid hm1
  have M2 := Lib.hid hm2
  have H1 := Lib.hid h1
  have H2 := Lib.hid h2
  clear hs hs2 hra hrb hca hdb hcm hdm hm1 hm2 h1 h2
  cases m1
  · go_enter Try.func26, Try.ntmps26
    go_wp2_with fail
    refine (M1.out w (Below.refl _ _)).mono ?_
    rintro e w1 ⟨rfl, hb⟩
    go_wp2_with fail
    go_ret2
    exact ⟨hb, _, rfl, LsV.nil _ _⟩
  · cases m2
    · go_enter Try.func26, Try.ntmps26
      go_wp2_with fail
      refine (M1.out w (Below.refl _ _)).mono ?_
      rintro e w1 ⟨rfl, hb⟩
      go_wp2_with fail
      refine (M2.out w1 hb).mono ?_
      rintro e w2 ⟨rfl, hb2⟩
      go_wp2_with fail
      go_ret2
      exact ⟨below_chain hb hb2, _, rfl, LsV.nil _ _⟩
    · have HM := Lib.hid (merge_between H1.out H2.out)
      go_enter Try.func26, Try.ntmps26
      go_wp2_with fail
      refine (M1.out w (Below.refl _ _)).mono ?_
      rintro e w1 ⟨rfl, hb⟩
      go_wp2_with fail
      refine (M2.out w1 hb).mono ?_
      rintro e w2 ⟨rfl, hb2⟩
      have B2 := Lib.hid (below_chain hb hb2)
      clear hb hb2
      go_wp2_with fail
      refine (side_between t l A B c d F G w2.heap.size w _ (mayP_vals H1.out) (mayP_vals H2.out) (by omega) HC.out.1 HC.out.2 HA.out.1 HA.out.2 (B2.out.alloc B2.out.size _) B2.out.size (OutX.new (E := chgN) B2.out.size)).mono ?_
      rintro e w3 ⟨⟨v3, rfl⟩, ho, hb3⟩
      obtain ⟨v4, hc4, hv4⟩ := ho.cell
      have B3 := Lib.hid hb3
      have V4 := Lib.hid hv4
      clear ho hb3 hv4
      go_wp2_with fail
      go_ret2
      refine ⟨B3.out, _, rfl, ?_⟩
      have := V4.out
      rw [HM.out] at this
      exact this
set_option maxHeartbeats 4000000 in
theorem Find_any7 (t : List Rw) (key : Key) (v : Value) (F : Nat → Prop) (w : World) (hs : SmallR t) (ht : t.length ≤ 1000) (hk : key.length ≤ 9223372036854775807) (hr : LsV rowE w F v t) :
    Calls Try.prog 28 #[v, .string ⟨key.toArray⟩] w fun e w' => P7Find t key w e w' := by
  obtain ⟨A, c, rfl, hra, hca, hcm, -⟩ := hr
  have hm1 := May_any t A c F w hs hra
  have HR := Lib.hid hra
  have hl' : (t.length : Int) ≤ 9223372036854775807 := by omega
  unfold P7Find
  obtain ⟨m1, h1⟩ : ∃ m, mayP t = m := ⟨_, rfl⟩
  rw [h1] at hm1
  have M1 := Lib.hid hm1
  have H1 := Lib.hid h1
  clear hs hra hca hcm hm1 h1
  cases m1
  · have HN := Lib.hid (show findP t key = none by unfold findP; rw [H1.out]; rfl)
    go_enter Try.func28, Try.ntmps28
    go_wp2_with fail
    refine M1.out.mono ?_
    rintro e w1 ⟨rfl, hb⟩
    go_wp2_with fail
    go_ret2
    rw [HN.out]
    exact ⟨hb, _, rfl, NewV.nil _ _⟩
  · go_enter Try.func28, Try.ntmps28
    go_wp2_with fail
    refine M1.out.mono ?_
    rintro e w1 ⟨rfl, hb⟩
    have B0 := Lib.hid hb
    clear hb
    go_wp2_with fail
    go_loopw [13] (fun j wr => ∃ k : Nat, j = .int .i64 k ∧ k ≤ t.length ∧ lookR (t.take k) key = none ∧ Below w.heap.size w wr) (fun j _ => t.length - (RowKit.intOf j).toNat)
    case atStart => exact ⟨0, rfl, Nat.zero_le _, by simp [lookR_nil], B0.out⟩
    case round =>
      obtain ⟨k, rfl, hk, hlk, hb⟩ := hrel
      have HL := Lib.hid hlk
      have HB := Lib.hid hb
      clear hlk hb
      by_cases hlt : k < t.length
      · have hlt' : (k : Int) < (t.length : Int) := by omega
        obtain ⟨b, off, A1, c1, rfl, hat, hbv⟩ := row_rd (HR.out.below HB.out) k hlt
        have HAT := Lib.hid hat
        obtain ⟨-, hrd, -, -, hn1⟩ := hbv.at
        have hvl := mayP_vals H1.out _ (List.getElem_mem hlt)
        have hcp := fun u (hu : Below wr.heap.size wr u) => Clone_ty t[k].2 A1 c1 u (by omega) (hrd.below hu) hn1
        by_cases hkey : t[k].1 = key
        · have hke : (t[k].1 == key) = true := by simpa using hkey
          have HN := Lib.hid (show findP t key = some t[k].2 by unfold findP; rw [H1.out, if_pos rfl]; exact look_hit HL.out hlt hkey)
          generalize t[k] = x at *
          obtain ⟨x1, x2⟩ := x
          dsimp only at *
          have HCP := Lib.hid hcp
          clear hcp hat hbv hrd hn1 hkey hvl
          go_wp2_with (first
            | ((with_reducible show wpList _ _ _ _ _ wr); refine wpList_load_agg rfl 50 _ rfl b (off + k * 2) rfl (rwCells (x1, x2) A1 c1) HAT.out _ Try.underlying50 rfl (infoRw (x1, x2) A1 c1) ?_; go_frame)
            | ((with_reducible show wpList _ _ _ _ _ wr); refine wpList_allocS rfl 50 rfl _ zeroRw ?_; intro g1 w2 hk1 hb1 hg1; go_frame; have K1 := Lib.hid hk1; have L1 := Lib.hid hb1; have G1 := Lib.hid hg1; clear hk1 hb1 hg1)
            | ((with_reducible show wpList _ _ _ _ _ w2); refine wpList_storeS rfl 50 _ _ rfl g1 rfl (rwCells (x1, x2) A1 c1) rwZero rfl K1.out rfl (rwCells_one (x1, x2) A1 c1) (infoRw (x1, x2) A1 c1) ?_; intro w3 hk2 ht2; go_frame; have L2 := Lib.hid (below_turn L1.out ht2 L1.out.size G1.out); have q0 := rw_c0 hk2; have q1 := rw_c1 hk2; clear hk2 ht2))
          refine (HCP.out w3 L2.out).mono ?_
          rintro e w4 ⟨v4, rfl, hv, hty, hkk, hb4⟩
          have NV := Lib.hid ((newV_of hv hty hkk).mono fun q _ h => Nat.le_trans (Nat.le_trans HB.out.size L2.out.size) h)
          have B4 := Lib.hid (below_chain (below_chain HB.out L2.out) hb4)
          clear hv hty hkk hb4
          go_wp2_with fail
          go_ret2
          rw [HN.out]
          exact ⟨B4.out, _, rfl, NV.out⟩
        · have hke : (t[k].1 == key) = false := by simpa using hkey
          have HN := Lib.hid (look_miss HL.out hlt hkey)
          generalize t[k] = x at *
          obtain ⟨x1, x2⟩ := x
          dsimp only at *
          clear hcp hat hbv hrd hn1 hkey hvl
          go_wp2_with (first
            | ((with_reducible show wpList _ _ _ _ _ wr); refine wpList_load_agg rfl 50 _ rfl b (off + k * 2) rfl (rwCells (x1, x2) A1 c1) HAT.out _ Try.underlying50 rfl (infoRw (x1, x2) A1 c1) ?_; go_frame)
            | ((with_reducible show wpList _ _ _ _ _ wr); refine wpList_allocS rfl 50 rfl _ zeroRw ?_; intro g1 w2 hk1 hb1 hg1; go_frame; have K1 := Lib.hid hk1; have L1 := Lib.hid hb1; have G1 := Lib.hid hg1; clear hk1 hb1 hg1)
            | ((with_reducible show wpList _ _ _ _ _ w2); refine wpList_storeS rfl 50 _ _ rfl g1 rfl (rwCells (x1, x2) A1 c1) rwZero rfl K1.out rfl (rwCells_one (x1, x2) A1 c1) (infoRw (x1, x2) A1 c1) ?_; intro w3 hk2 ht2; go_frame; have L2 := Lib.hid (below_turn L1.out ht2 L1.out.size G1.out); have q0 := rw_c0 hk2; have q1 := rw_c1 hk2; clear hk2 ht2))
          go_roundw
          case rel => exact ⟨k + 1, by go_num, hlt, HN.out, below_chain HB.out L2.out⟩
          case measure => simp [intOf]; omega
      · have hlt' : ¬ (k : Int) < (t.length : Int) := by omega
        have HN := Lib.hid (show findP t key = none by
          unfold findP
          have := HL.out
          rw [List.take_of_length_le (by omega)] at this
          rw [this]
          split <;> rfl)
        go_wp2_with fail
        go_ret2
        rw [HN.out]
        exact ⟨HB.out, _, rfl, NewV.nil _ _⟩
theorem k7 : K7 where
  put l v F w hs ht hr := by
    obtain ⟨A, c, rfl, h, -⟩ := hr
    exact (Put_any l A c F w hs ht h).mono fun e w' ⟨hb, h⟩ => by
      refine ⟨hb, ?_⟩
      split at h
      · rename_i hm
        obtain ⟨v, he, ho⟩ := h
        refine ⟨v, by rw [if_pos hm]; exact he, ?_⟩
        rw [if_pos hm]
        exact (BsV.own ho).any
      · rename_i hm
        exact ⟨_, by rw [if_neg hm]; exact h, by rw [if_neg hm]; exact BsV.nil _ _⟩
  get b v F w hl hr := by
    obtain ⟨A, c, rfl, h1, h2, h3, h4⟩ := hr
    exact (Get_any7 b A c w hl h1.rd h3 h4).mono fun e w' ⟨hb, h⟩ => by
      refine ⟨hb, ?_⟩
      cases hg : getC b with
      | error er =>
        rw [hg] at h
        exact ⟨_, h, LsV.nil _ _⟩
      | ok l =>
        rw [hg] at h
        obtain ⟨v, g, he, ho⟩ := h
        exact ⟨v, he, ho.ls.mono fun _ _ _ => trivial⟩
  may t v F w hs hr := by
    obtain ⟨A, c, rfl, h, -⟩ := hr
    exact May_any t A c F w hs h
  mayC t v F w hs hr := by
    obtain ⟨A, c, rfl, h, -⟩ := hr
    exact MayC_any t A c F w hs h
  shared a b w ha hb := Shared_any a b w ha hb
  find t key v F w hs ht hk hr := Find_any7 t key v F w hs ht hk hr
  apply t l v u F G w hs hs2 ht hl hr hr2 := Apply_any t l v u F G w hs hs2 ht hl hr hr2
  betw a b v u F G w hs hs2 ha hb hr hr2 := Between_any a b v u F G w hs hs2 ha hb hr hr2

end Go.Proofs.Ytiemphfikfigdaa
