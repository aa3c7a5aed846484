/- SWEPT -/
import Derived.Test.YtfgbpinfplllgaaGreatDoorZStComm
set_option linter.unusedVariables false
set_option linter.unusedSimpArgs false
open Go.Lib (hid)
namespace Go.Proofs.YtfgbpinfplllgaaGreatDoor
open Go.RowKit Go.Shelf
set_option maxRecDepth 100000
def comR (j : JS) (s : DS) (rows : List Rw) (H : Nat) (l : List Ch) : SR × Bool :=
  if s.dark then (⟨j, s, rows, 9⟩, false) else if mayCP l then (if l = [] then (⟨j, s, rows, 0⟩, false) else
    (⟨(commR j s rows H l).j, (commR j s rows H l).s, (commR j s rows H l).rows, if (commR j s rows H l).e = 10 ∨ (commR j s rows H l).e = 3 then 10 else (commR j s rows H l).e⟩, decide ((commR j s rows H l).e = 9)))
  else (⟨j, s, rows, 2⟩, false)
def ComRet (sb d : Nat) (r : SR × Bool) (H : Nat) (F : Nat → Prop) (w : World) (e : Ending) (w' : World) : Prop := e = .returned (.int .i64 r.1.e) ∧ Turn w w' F ∧ OnS w' sb d r.1.j r.1.s r.1.rows r.2 H F
set_option maxHeartbeats 8000000 in
theorem Commit_v (K : K7) {w : World} {sb d : Nat} {u : Value} {j : JS} {s : DS} {H : Nat} {F G : Nat → Prop} {rows : List Rw} {l : List Ch} (h : OnS w sb d j s rows false H F) (hg : LaidErr w) (hF0 : ¬ F 0) (hF : ∀ k, w.heap.size ≤ k → F k)
    (hl : rows.length ≤ 10000) (hm : mayP rows = true) (hlc : l.length ≤ 10000) (hsc : SmallC l) (hrc : LsV chgE w G u l)
    (hst : s.steps + 30000 < 4611686018427387904) (hq : s.q.length + 30000 < 1099511627776) :
    Calls Tryz.prog 18 #[.pointer (some ⟨sb, 0, none⟩), u] w fun e w' => ComRet sb d (comR j s rows H l) H F w e w' := by
  have c0 : w.cell? ⟨sb, 0, none⟩ = some (.pointer (some ⟨d, 0, none⟩)) := by
    obtain ⟨jb, v, A, n, c, FJ, FR, h1, _⟩ := h
    exact h1.cell 0 rfl
  have hn := isNoneS_some sb d w c0
  have hdk := Dark_v h.disk
  have hu1 := hrc.one
  obtain ⟨uA, uc, rfl, -⟩ := id hrc
  have hmc := K.mayC l _ G w hsc hrc
  have HO := hid h
  unfold comR
  cases hd : s.dark
  · rw [hd] at hdk
    cases hm2 : mayCP l
    · rw [hm2] at hmc
      have HM := hid hmc
      clear h hg hF0 hF hl hm hlc hsc hrc hst hq hd hm2 hmc
      go_enter Tryz.func18, Tryz.ntmps18
      go_wp2_with fail
      refine hn.mono ?_
      rintro e w' ⟨rfl, rfl⟩
      go_wp2_with fail
      refine hdk.mono ?_
      rintro e w' ⟨rfl, rfl⟩
      go_wp2_with fail
      refine HM.out.mono ?_
      rintro e w' ⟨rfl, hb⟩
      go_wp2_with fail
      go_ret
      exact ⟨rfl, Turn.of_below hb _, HO.out.below hb⟩
    · rw [hm2] at hmc
      have HM := hid hmc
      by_cases h0 : l = []
      · subst h0
        clear h hg hF0 hF hl hm hlc hsc hrc hst hq hd hm2 hmc
        go_enter Tryz.func18, Tryz.ntmps18
        go_wp2_with fail
        refine hn.mono ?_
        rintro e w' ⟨rfl, rfl⟩
        go_wp2_with fail
        refine hdk.mono ?_
        rintro e w' ⟨rfl, rfl⟩
        go_wp2_with fail
        refine HM.out.mono ?_
        rintro e w' ⟨rfl, hb⟩
        have HB := hid hb
        clear hb
        go_wp2_with fail
        go_ret
        exact ⟨rfl, Turn.of_below HB.out _, HO.out.below HB.out⟩
      · rw [if_neg h0]
        have hlen : ¬ l.length = 0 := fun e => h0 (List.eq_nil_of_length_eq_zero e)
        have hln : ((l.length : Int) == 0) = false := by simpa using hlen
        have HCV := hid (fun (W : World) (hb : Below w.heap.size w W) => commit_v K (h.below hb) (fun k hk => hF k (Nat.le_trans hb.size hk)) hl hm hlc hm2 (hrc.below hb) hst hq)
        have HG := hid hg
        have H0 := hid hF0
        clear h hg hF0 hF hl hm hlc hsc hrc hst hq hd hm2 hmc h0 hlen
        generalize commR j s rows H l = r at *
        simp only [Bool.false_eq_true, if_false, if_true, reduceIte]
        go_enter Tryz.func18, Tryz.ntmps18
        go_wp2_with fail
        refine hn.mono ?_
        rintro e w' ⟨rfl, rfl⟩
        go_wp2_with fail
        refine hdk.mono ?_
        rintro e w' ⟨rfl, rfl⟩
        go_wp2_with fail
        refine HM.out.mono ?_
        rintro e w1 ⟨rfl, hb⟩
        have HB := hid hb
        clear hb
        go_wp2_with fail
        refine (HCV.out w1 HB.out).mono ?_
        rintro e w2 ⟨ev, rfl, he, ht, ho⟩
        have hev := he.one
        have hT : Turn w w2 F := (Turn.of_below HB.out F).trans ht fun _ _ h => h
        have hg2 : LaidErr w2 := (World.cell?_of_block (w := w) (hT.block 0 HG.out.pos H0.out)).trans HG.out
        have hfu := isFull_v ev _ w2 he
        have hnu := number_v ev _ w2 hg2 he
        have T2 := hid hT
        have O2 := hid ho
        have NU := hid hnu
        clear he ht ho hT hg2 hnu HCV HM
        by_cases h10 : r.e = 10 ∨ r.e = 3
        · have hb : (r.e == 10 || r.e == 3) = true := by rcases h10 with h | h <;> rw [h] <;> rfl
          rw [hb] at hfu
          have H10 := hid h10
          clear h10 hb
          go_wp2_with fail
          refine hfu.mono ?_
          rintro e w' ⟨rfl, rfl⟩
          go_wp2_with fail
          go_ret
          exact ⟨by first | rfl | (rw [if_pos H10.out]; rfl), T2.out, O2.out⟩
        · have hb : (r.e == 10 || r.e == 3) = false := by
            have h1 : r.e ≠ 10 := fun e => h10 (.inl e)
            have h2 : r.e ≠ 3 := fun e => h10 (.inr e)
            simp [h1, h2]
          rw [hb] at hfu
          have H10 := hid h10
          clear h10 hb
          go_wp2_with fail
          refine hfu.mono ?_
          rintro e w' ⟨rfl, rfl⟩
          go_wp2_with fail
          refine NU.out.mono ?_
          rintro e w3 ⟨rfl, hb3⟩
          have B3 := hid hb3
          clear hb3
          go_wp2_with fail
          go_ret
          exact ⟨by first | rfl | (rw [if_neg H10.out]; rfl), T2.out.trans (Turn.of_below B3.out _) fun _ _ h => h, O2.out.below B3.out⟩
  · rw [hd] at hdk
    clear h hg hF0 hF hl hm hlc hsc hrc hst hq hd hmc
    go_enter Tryz.func18, Tryz.ntmps18
    go_wp2_with fail
    refine hn.mono ?_
    rintro e w' ⟨rfl, rfl⟩
    go_wp2_with fail
    refine hdk.mono ?_
    rintro e w' ⟨rfl, rfl⟩
    go_wp2_with fail
    go_ret
    exact ⟨rfl, Turn.refl _ _, HO.out⟩
end Go.Proofs.YtfgbpinfplllgaaGreatDoor
