/- The program: parts, and the function that it hands back. -/
import Derived.Test.YthjcnijageiaiaaSpZ1
import Derived.Test.YthjcnijageiaiaaSpZ4
import Derived.Test.YthjcnijageiaiaaSpZ5
namespace Go.Proofs.Ythjcnijageiaiaa
open Go.RowKit Go.Shelf Go.Lib Go.ChangeShapes Go.WideShapes Go.ChangeAt
set_option linter.unusedVariables false
set_option maxRecDepth 100000
set_option linter.unusedSimpArgs false

attribute [local go_sem] Oper.semAt_some

/-- a span whose ends are numbers of 32 bits -/
abbrev S32 := { s : Sp // s.1 < 4294967296 ∧ s.2 < 4294967296 }
def encS (x : S32) : Array Value := #[.agg (spC x.1).toArray]
def vals (xs : List S32) : List Sp := xs.map (·.1)
theorem vals_snoc (xs : List S32) (x : S32) : vals (xs ++ [x]) = vals xs ++ [x.1] := by simp [vals]
theorem vals_len (xs : List S32) : (vals xs).length = xs.length := by simp [vals]
theorem grown_of_below {X Y : World} (h : Below X.heap.size X Y) : X.grownBy Y none := ⟨h.os, h.tape, h.output, h.size, fun k hk _ => h.block k hk⟩
/-- the boxes of what parts hands back, and the spans -/
structure PBox (l : List Sp) (s i : Sp) (A : Option Addr) (c g1 g2 g3 : Nat) (W : World) : Prop where
  b1 : Cs W g1 22 #[.slice A l.length c]
  b2 : Cs W g2 25 (spC s).toArray
  b3 : Cs W g3 25 (spC i).toArray
  rd : RdX spE W (fun _ => True) A l
theorem PBox.below {l : List Sp} {s i : Sp} {A : Option Addr} {c g1 g2 g3 : Nat} {w W : World} (h : PBox l s i A c g1 g2 g3 w) (hb : Below w.heap.size w W) : PBox l s i A c g1 g2 g3 W :=
  ⟨h.b1.below hb h.b1.lt, h.b2.below hb h.b2.lt, h.b3.below hb h.b3.lt, h.rd.below hb⟩
set_option maxHeartbeats 4000000 in
theorem Parts_v (l : List Sp) (s i : Sp) (A : Option Addr) (c : Nat) (F : Nat → Prop) (w : World) (r : RdX spE w F A l) :
    Calls Try.prog 32 #[.slice A l.length c, .agg (spC s).toArray, .agg (spC i).toArray] w fun e w' => ∃ g1 g2 g3, e = .returned (.func (.func 35) #[] #[.pointer (some ⟨g1, 0, none⟩), .pointer (some ⟨g2, 0, none⟩), .pointer (some ⟨g3, 0, none⟩)]) ∧ PBox l s i A c g1 g2 g3 w' ∧ Below w.heap.size w w' := by
  have HP := Lib.hid r
  clear r
  go_enter Try.func32, Try.ntmps32
  go_wp2_with (first
    | ((with_reducible show wpList _ _ _ _ _ (World.alloc w _)); generalize hw1 : w.alloc (.cells #[.slice A l.length c] 22) = w1; refine wpList_boxS rfl 25 _ rfl (spC s) rfl ?_; intro g2 w2 hk2 hb2 hg2; go_frame; have K1 := Lib.hid hw1; have C2 := Lib.hid hk2; have B2 := Lib.hid hb2; clear hw1 hk2 hb2 hg2)
    | ((with_reducible show wpList _ _ _ _ _ w2); refine wpList_boxS rfl 25 _ rfl (spC i) rfl ?_; intro g3 w3 hk3 hb3 hg3; go_frame; have C3 := Lib.hid hk3; have B3 := Lib.hid hb3; clear hk3 hb3 hg3)
    | fail)
  go_ret
  have c1 : Cs w1 w.heap.size 22 #[.slice A l.length c] := by rw [← K1.out]; exact Cs.new _ _ _
  have b1 : Below w.heap.size w w1 := by rw [← K1.out]; exact (Below.refl _ _).alloc (Nat.le_refl _) _
  have c2 := c1.below B2.out c1.lt
  exact ⟨_, _, _, rfl, ⟨c2.below B3.out c2.lt, C2.out.below B3.out C2.out.lt, C3.out, (((HP.out.below b1).below B2.out).below B3.out).mono fun _ _ _ => trivial⟩, below_chain (below_chain b1 B2.out) B3.out⟩
theorem ahead_take {l : List Sp} {s : Sp} {k : Nat} (hk : k < l.length) : (aheadP l s).take (k + 1) = (aheadP l s).take k ++ [(l[k].1, min l[k].2 s.1)] := by
  have h : k < (aheadP l s).length := by simpa [aheadP] using hk
  rw [List.take_succ_eq_append_getElem h]
  simp [aheadP]
theorem behind_take {l : List Sp} {s : Sp} {k : Nat} (hk : k < l.length) : (behindP l s).take (k + 1) = (behindP l s).take k ++ [(max l[k].1 s.2, l[k].2)] := by
  have h : k < (behindP l s).length := by simpa [behindP] using hk
  rw [List.take_succ_eq_append_getElem h]
  simp [behindP]
theorem ahead_all {l : List Sp} {s : Sp} {k : Nat} (hk : ¬ k < l.length) : (aheadP l s).take k = aheadP l s := List.take_of_length_le (by simp [aheadP]; omega)
theorem behind_all {l : List Sp} {s : Sp} {k : Nat} (hk : ¬ k < l.length) : (behindP l s).take k = behindP l s := List.take_of_length_le (by simp [behindP]; omega)
theorem ahead_len (l : List Sp) (s : Sp) : (aheadP l s).length = l.length := by simp [aheadP]
theorem behind_len (l : List Sp) (s : Sp) : (behindP l s).length = l.length := by simp [behindP]
set_option maxHeartbeats 8000000 in
theorem parts1_in (n : Nat) (hn : 1 ≤ n) (ll : Nat) (l : List Sp) (s i : Sp) (A : Option Addr) (c g1 g2 g3 : Nat) (hl : l.length ≤ 10000000) (hs : s.1 < 4294967296 ∧ s.2 < 4294967296) (hi : i.1 < 4294967296 ∧ i.2 < 4294967296)
    (w0 w : World) (hw : Below w0.heap.size w0 w) (J Jx : List S32 → World → Prop) (hJ : AbidesFrom w.heap.size J)
    (hY : ∀ pre (x : S32) X, J pre X → pre.length < 2 * l.length + 1 → YieldAt Fence.wide (n - 1) Try.prog ll (encS x) X fun e W' =>
      (e = .returned (.bool true) ∧ J (pre ++ [x]) W' ∧ Below w0.heap.size X W') ∨ (e = .returned (.bool false) ∧ Jx (pre ++ [x]) W'))
    (hp : PBox l s i A c g1 g2 g3 w0) (h0 : J [] w) :
    CallsIn Fence.wide n Try.prog 35 #[.func (.yield ll) #[] #[], .pointer (some ⟨g1, 0, none⟩), .pointer (some ⟨g2, 0, none⟩), .pointer (some ⟨g3, 0, none⟩)] w fun e W' => (∃ v, e = .returned v) ∧
      ((∃ ys, vals ys = partsP l s i ∧ J ys W') ∨ (∃ pre, True ∧ Jx pre W')) := by
  have HP := Lib.hid hp
  have HS := Lib.hid hs
  have HI := Lib.hid hi
  have HY := Lib.hid hY
  have HJ := Lib.hid hJ
  have HAB := Lib.hid (fun (pre : List S32) (X Y : World) (h : J pre X) (hb : Below X.heap.size X Y) => hJ pre X Y none h (grown_of_below hb) (fun r e => by cases e))
  clear hs hi hY hJ
  refine callsIn_of_wp Try.func35 rfl trivial ?_ rfl
  simp only [Try.ntmps35, List.size_toArray, List.length_cons, List.length_nil, Nat.reduceAdd, Nat.reduceSub, Array.replicate_succ, Array.replicate_zero, List.push_toArray, List.append_toArray, List.nil_append, List.cons_append]
  obtain ⟨s1, s2⟩ := s
  have q1 := (hp.below hw).b1.cell 0 rfl
  clear hp
  gi_wp2
  clear q1
  gi_loopw [11] (fun j wr => ∃ (k : Nat) (pre : List S32), j = .int .i64 k ∧ k ≤ l.length ∧ vals pre = (aheadP l (s1, s2)).take k ∧ J pre wr ∧ Below w0.heap.size w0 wr) (fun j _ => l.length - (RowKit.intOf j).toNat)
  case atStart => exact ⟨0, [], rfl, Nat.zero_le _, rfl, h0, hw⟩
  case round =>
    obtain ⟨k, pre, rfl, hk, hpre, hJp, hB⟩ := hrel
    by_cases hlt : k < l.length
    · obtain ⟨b, off, rfl, hat, hx1, hx2⟩ := sp_cells (HP.out.below hB).rd k hlt
      have HAT := Lib.hid hat
      have HB := Lib.hid hB
      have HJP := Lib.hid hJp
      have hk' : k + 1 ≤ l.length := hlt
      have HLN := Lib.hid (show pre.length < 2 * l.length + 1 by
        have := congrArg List.length hpre
        rw [vals_len, List.length_take, ahead_len] at this
        omega)
      have HN := Lib.hid (show vals pre ++ [(l[k].1, min l[k].2 s1)] = (aheadP l (s1, s2)).take (k + 1) by rw [hpre, ahead_take hlt])
      generalize l[k] = x at *
      obtain ⟨x1, x2⟩ := x
      dsimp only at *
      clear hat hB hJp hpre hk
      have HV := Lib.hid (show ((x1, min x2 s1) : Sp).1 < 4294967296 ∧ ((x1, min x2 s1) : Sp).2 < 4294967296 from ⟨by dsimp only; have := HS.out; omega, by dsimp only; have := HS.out; omega⟩)
      clear hx1 hx2
      gi_wp2_with (first
        | ((with_reducible show wpListIn _ _ _ _ _ _ _ wr); refine wpListIn_of Open.wide rfl (by intro c h; cases h) fun K hK => wp_load_agg 25 _ rfl b (off + k * 2) rfl (spC (x1, x2)) HAT.out _ Try.underlying25 rfl infoSpan (hK _ _ ?_); clear hK K; go_frame)
        | ((with_reducible show wpListIn _ _ _ _ _ _ _ wr); refine wpListIn_of Open.wide rfl (by intro c h; cases h) fun K hK => wp_allocS 25 rfl spanZ spanZero (fun gp w1 hk1 hb1 hg1 => hK _ _ ?_); clear hK K; go_frame; have C1 := Lib.hid hk1; have B1 := Lib.hid hb1; have G1 := Lib.hid hg1; clear hk1 hb1 hg1)
        | ((with_reducible show wpListIn _ _ _ _ _ _ _ w1); refine wpListIn_of Open.wide rfl (by intro c h; cases h) fun K hK => wp_storeW 25 _ _ rfl gp rfl (spC (x1, x2)) spanZ rfl C1.out rfl (spC_one _) infoSpan (fun w2 hk2 ht2 => hK _ _ ?_); clear hK K; go_frame; have q0 : w2.cell? ⟨gp, 0, none⟩ = some (.int .u32 (x1 : Int)) := hk2.cell 0 rfl; have q1 : w2.cell? ⟨gp, 1, none⟩ = some (.int .u32 (x2 : Int)) := hk2.cell 1 rfl; have hb2 := below_turn B1.out ht2 B1.out.size G1.out; have hbw := below_chain HB.out hb2; have q2 : w2.cell? ⟨g2, 0, none⟩ = some (.int .u32 (s1 : Int)) := (HP.out.below hbw).b2.cell 0 rfl; obtain ⟨fn, tmps, assign, body, hy, hR⟩ := HY.out pre ⟨(x1, min x2 s1), HV.out⟩ w2 (HAB.out _ _ _ HJP.out hb2) HLN.out; dsimp only [encS, spC] at hy; rw [show ((min x2 s1 : Nat) : Int) = min (x2 : Int) (s1 : Int) by omega] at hy; have HR := Lib.hid hR; have B2 := Lib.hid hbw; clear hk2 ht2 hb2 hbw hR)
        | fail)
      refine HR.out.mono ?_
      rintro e W3 (⟨rfl, hJ3, hk3⟩ | ⟨rfl, hJx3⟩)
      · have HJ3 := Lib.hid hJ3
        have B3 := Lib.hid (B2.out.trans hk3)
        clear hJ3 hk3 hy
        gi_wp2
        go_roundw
        case rel => exact ⟨k + 1, pre ++ [_], by go_num, hk', by rw [vals_snoc]; exact HN.out, HJ3.out, B3.out⟩
        case measure => simp [RowKit.intOf]; omega
      · have HJX := Lib.hid hJx3
        clear hJx3 hy
        gi_wp2
        refine bodyPost_ret (results_none rfl _ _ _) rfl ?_
        exact ⟨⟨_, rfl⟩, .inr ⟨_, trivial, HJX.out⟩⟩
    · have HB := Lib.hid hB
      have HJP := Lib.hid hJp
      have HPRE := Lib.hid (show vals pre = aheadP l (s1, s2) by rw [hpre, ahead_all hlt])
      have HLN := Lib.hid (show pre.length < 2 * l.length + 1 by
        have := congrArg List.length HPRE.out
        rw [vals_len, ahead_len] at this
        omega)
      have HI3 := Lib.hid (HP.out.below hB)
      obtain ⟨fn, tmps, assign, body, hy, hR⟩ := HY.out pre ⟨i, HI.out⟩ wr hJp HLN.out
      dsimp only [encS] at hy
      have HR := Lib.hid hR
      clear hR hB hJp hpre hk
      gi_wp2_with (first
        | ((with_reducible show wpListIn _ _ _ _ _ _ _ wr); refine wpListIn_of Open.wide rfl (by intro c h; cases h) fun K hK => wp_load_agg 25 _ rfl g3 0 rfl (spC i) (At.whole HI3.out.b3) _ Try.underlying25 rfl infoSpan (hK _ _ ?_); clear hK K; go_frame)
        | fail)
      refine HR.out.mono ?_
      rintro e W3 (⟨rfl, hJ3, hk3⟩ | ⟨rfl, hJx3⟩)
      · have HJ3 := Lib.hid hJ3
        have B3 := Lib.hid (HB.out.trans hk3)
        have q1 : W3.cell? ⟨g1, 0, none⟩ = some (.slice A l.length c) := (HP.out.below B3.out).b1.cell 0 rfl
        have HP3 := Lib.hid (show vals (pre ++ [⟨i, HI.out⟩]) = aheadP l (s1, s2) ++ [i] by rw [vals_snoc, HPRE.out])
        generalize pre ++ [⟨i, HI.out⟩] = pre1 at *
        clear hJ3 hk3 hy HLN HPRE
        gi_wp2
        clear q1
        gi_loopw [33] (fun j wr => ∃ (k : Nat) (pre : List S32), j = .int .i64 k ∧ k ≤ l.length ∧ vals pre = aheadP l (s1, s2) ++ [i] ++ (behindP l (s1, s2)).take k ∧ J pre wr ∧ Below w0.heap.size w0 wr) (fun j _ => l.length - (RowKit.intOf j).toNat)
        case atStart => exact ⟨0, pre1, rfl, Nat.zero_le _, by rw [HP3.out]; simp, HJ3.out, B3.out⟩
        case round =>
          obtain ⟨k, pre, rfl, hk, hpre, hJp, hB⟩ := hrel
          by_cases hlt : k < l.length
          · obtain ⟨b, off, rfl, hat, hx1, hx2⟩ := sp_cells (HP.out.below hB).rd k hlt
            have HAT := Lib.hid hat
            have HB := Lib.hid hB
            have HJP := Lib.hid hJp
            have hk' : k + 1 ≤ l.length := hlt
            have HLN := Lib.hid (show pre.length < 2 * l.length + 1 by
              have := congrArg List.length hpre
              rw [vals_len, List.length_append, List.length_append, List.length_take, ahead_len, behind_len] at this
              simp at this
              omega)
            have HN := Lib.hid (show vals pre ++ [(max l[k].1 s2, l[k].2)] = aheadP l (s1, s2) ++ [i] ++ (behindP l (s1, s2)).take (k + 1) by rw [hpre, behind_take hlt, ← List.append_assoc])
            generalize l[k] = x at *
            obtain ⟨x1, x2⟩ := x
            dsimp only at *
            clear hat hB hJp hpre hk
            have HV := Lib.hid (show ((max x1 s2, x2) : Sp).1 < 4294967296 ∧ ((max x1 s2, x2) : Sp).2 < 4294967296 from ⟨by dsimp only; have := HS.out; omega, by dsimp only; have := HS.out; omega⟩)
            clear hx1 hx2
            gi_wp2_with (first
              | ((with_reducible show wpListIn _ _ _ _ _ _ _ wr); refine wpListIn_of Open.wide rfl (by intro c h; cases h) fun K hK => wp_load_agg 25 _ rfl b (off + k * 2) rfl (spC (x1, x2)) HAT.out _ Try.underlying25 rfl infoSpan (hK _ _ ?_); clear hK K; go_frame)
              | ((with_reducible show wpListIn _ _ _ _ _ _ _ wr); refine wpListIn_of Open.wide rfl (by intro c h; cases h) fun K hK => wp_allocS 25 rfl spanZ spanZero (fun gp w1 hk1 hb1 hg1 => hK _ _ ?_); clear hK K; go_frame; have C1 := Lib.hid hk1; have B1 := Lib.hid hb1; have G1 := Lib.hid hg1; clear hk1 hb1 hg1)
              | ((with_reducible show wpListIn _ _ _ _ _ _ _ w1); refine wpListIn_of Open.wide rfl (by intro c h; cases h) fun K hK => wp_storeW 25 _ _ rfl gp rfl (spC (x1, x2)) spanZ rfl C1.out rfl (spC_one _) infoSpan (fun w2 hk2 ht2 => hK _ _ ?_); clear hK K; go_frame; have q0 : w2.cell? ⟨gp, 0, none⟩ = some (.int .u32 (x1 : Int)) := hk2.cell 0 rfl; have q1 : w2.cell? ⟨gp, 1, none⟩ = some (.int .u32 (x2 : Int)) := hk2.cell 1 rfl; have hb2 := below_turn B1.out ht2 B1.out.size G1.out; have hbw := below_chain HB.out hb2; have q2 : w2.cell? ⟨g2, 1, none⟩ = some (.int .u32 (s2 : Int)) := (HP.out.below hbw).b2.cell 1 rfl; obtain ⟨fn, tmps, assign, body, hy, hR⟩ := HY.out pre ⟨(max x1 s2, x2), HV.out⟩ w2 (HAB.out _ _ _ HJP.out hb2) HLN.out; dsimp only [encS, spC] at hy; rw [show ((max x1 s2 : Nat) : Int) = max (x1 : Int) (s2 : Int) by omega] at hy; have HR := Lib.hid hR; have B2 := Lib.hid hbw; clear hk2 ht2 hb2 hbw hR)
              | fail)
            refine HR.out.mono ?_
            rintro e W3 (⟨rfl, hJ3, hk3⟩ | ⟨rfl, hJx3⟩)
            · have HJ3 := Lib.hid hJ3
              have B3 := Lib.hid (B2.out.trans hk3)
              clear hJ3 hk3 hy
              gi_wp2
              go_roundw
              case rel => exact ⟨k + 1, pre ++ [_], by go_num, hk', by rw [vals_snoc]; exact HN.out, HJ3.out, B3.out⟩
              case measure => simp [RowKit.intOf]; omega
            · have HJX := Lib.hid hJx3
              clear hJx3 hy
              gi_wp2
              refine bodyPost_ret (results_none rfl _ _ _) rfl ?_
              exact ⟨⟨_, rfl⟩, .inr ⟨_, trivial, HJX.out⟩⟩
          · have HJP := Lib.hid hJp
            have HPRE := Lib.hid (show vals pre = partsP l (s1, s2) i by rw [hpre, behind_all hlt]; rfl)
            clear hJp hpre hk
            gi_wp2
            go_end0
            exact ⟨⟨_, rfl⟩, .inl ⟨_, HPRE.out, HJP.out⟩⟩
      · have HJX := Lib.hid hJx3
        clear hJx3 hy
        gi_wp2
        refine bodyPost_ret (results_none rfl _ _ _) rfl ?_
        exact ⟨⟨_, rfl⟩, .inr ⟨_, trivial, HJX.out⟩⟩
theorem parts1_seq (n : Nat) (hn : 1 ≤ n) (l : List Sp) (s i : Sp) (A : Option Addr) (c g1 g2 g3 : Nat) (hl : l.length ≤ 10000000) (hs : s.1 < 4294967296 ∧ s.2 < 4294967296) (hi : i.1 < 4294967296 ∧ i.2 < 4294967296) (w : World) (hp : PBox l s i A c g1 g2 g3 w) :
    SeqStopsK Fence.wide n Try.prog 35 #[.pointer (some ⟨g1, 0, none⟩), .pointer (some ⟨g2, 0, none⟩), .pointer (some ⟨g3, 0, none⟩)] encS (Below w.heap.size) (fun ys => vals ys = partsP l s i) (fun _ => True) (2 * l.length + 1) w := fun ll J Jx W hW hJ _ hY h0 =>
  parts1_in n hn ll l s i A c g1 g2 g3 hl hs hi w W hW J Jx hJ hY hp h0

end Go.Proofs.Ythjcnijageiaiaa
