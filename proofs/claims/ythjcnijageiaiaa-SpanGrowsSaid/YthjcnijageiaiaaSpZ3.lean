/- The program: slices.ContainsFunc at spans; Has, Holds. -/
import Derived.Test.YthjcnijageiaiaaSpZ2
namespace Go.Proofs.Ythjcnijageiaiaa
open Go.RowKit Go.Shelf
set_option linter.unusedVariables false
set_option maxRecDepth 100000
set_option linter.unusedSimpArgs false

/-- what tells of a span, and may make memory -/
def TellsOf (g : Nat) (lb : Array Value) (p : Sp → Bool) (w : World) : Prop := ∀ (W : World) (x : Sp), Below w.heap.size w W → Calls Try.prog g (#[.agg (spC x).toArray] ++ lb) W fun e w' => e = .returned (.bool (p x)) ∧ Below W.heap.size W w'
/-- none of the first k is one -/
def NoneI (l : List Sp) (p : Sp → Bool) (k : Nat) : Prop := k ≤ l.length ∧ (l.take k).any p = false
theorem NoneI.next {l : List Sp} {p : Sp → Bool} {k : Nat} (h : NoneI l p k) (hk : k < l.length) (h1 : p l[k] = false) : NoneI l p (k + 1) := ⟨hk, by
  rw [List.take_succ_eq_append_getElem hk, List.any_append, h.2, Bool.false_or]
  simp [h1]⟩
theorem NoneI.over {l : List Sp} {p : Sp → Bool} {k : Nat} (h : NoneI l p k) (hk : ¬ k < l.length) : l.any p = false := by
  have := h.2
  rwa [List.take_of_length_le (by omega)] at this
theorem any_yes {l : List Sp} {p : Sp → Bool} {k : Nat} (hk : k < l.length) (h : p l[k] = true) : l.any p = true := List.any_eq_true.2 ⟨_, List.getElem_mem hk, h⟩
/-- an index, or -1 -/
def IdxIs (b : Bool) (i : Int) : Prop := (b = true → 0 ≤ i) ∧ (b = false → i = -1)
set_option maxHeartbeats 8000000 in
theorem IndexFunc_v (l : List Sp) (p : Sp → Bool) (g : Nat) (lb : Array Value) (eg : ∀ args w, (callFunc g args).run Try.prog w = .ok (.enter g args) w) (A : Option Addr) (c : Nat) (F : Nat → Prop) (w : World) (hl : l.length ≤ 140737488355328) (r : RdX spE w F A l) (hp : TellsOf g lb p w) :
    Calls Try.prog 34 #[.slice A l.length c, .func (.func g) #[] lb] w fun e w' => (∃ i : Int, e = .returned (.int .i64 i) ∧ IdxIs (l.any p) i) ∧ Below w.heap.size w w' := by
  have HP := Lib.hid r
  have HC := Lib.hid hp
  clear r hp
  go_enter Try.func34, Try.ntmps34
  go_wp2
  go_loopw [5, 8] (fun _ j wr => ∃ k : Nat, j = .int .i64 k ∧ NoneI l p k ∧ Below w.heap.size w wr) (fun _ j _ => l.length - (RowKit.intOf j).toNat)
  case atStart => exact ⟨0, rfl, ⟨Nat.zero_le _, rfl⟩, Below.refl _ _⟩
  case round =>
    obtain ⟨k, rfl, hI, hB⟩ := hrel
    by_cases hk : k < l.length
    · obtain ⟨b, off, rfl, hat, -⟩ := sp_cells (HP.out.below hB) k hk
      have HX := Lib.hid (fun e => any_yes (p := p) hk e)
      have HY := Lib.hid (fun e => hI.next hk e)
      have HAT := Lib.hid hat
      have HB := Lib.hid hB
      clear hI hat
      generalize l[k] = x at *
      have HCX := Lib.hid (HC.out wr x hB)
      clear hB
      cases hq : p x
      · have hf := Lib.hid (HY.out hq)
        rw [hq] at HCX
        clear HX HY hq
        go_wp2_with (first
          | ((with_reducible show wpList _ _ _ _ _ wr); refine wpList_load_agg rfl 25 _ rfl b (off + k * 2) rfl (spC x) HAT.out _ Try.underlying25 rfl infoSpan ?_; go_frame)
          | (go_at_fn g; refine HCX.out.mono ?_; rintro e u1 ⟨rfl, hb⟩; have B1 := Lib.hid (below_chain HB.out hb); clear hb)
          | fail)
        go_roundw
        case rel => exact ⟨k + 1, by go_num, hf.out, B1.out⟩
        case measure => simp [RowKit.intOf]; omega
      · have hf := Lib.hid (HX.out hq)
        rw [hq] at HCX
        clear HX HY hq
        go_wp2_with (first
          | ((with_reducible show wpList _ _ _ _ _ wr); refine wpList_load_agg rfl 25 _ rfl b (off + k * 2) rfl (spC x) HAT.out _ Try.underlying25 rfl infoSpan ?_; go_frame)
          | (go_at_fn g; refine HCX.out.mono ?_; rintro e u1 ⟨rfl, hb⟩; have B1 := Lib.hid (below_chain HB.out hb); clear hb)
          | fail)
        go_ret
        exact ⟨⟨_, rfl, ⟨fun _ => (by omega), fun h => (by rw [hf.out] at h; exact absurd h (by simp))⟩⟩, B1.out⟩
    · have hv := Lib.hid (hI.over hk)
      clear hI
      go_wp2_with fail
      go_ret
      exact ⟨⟨_, rfl, ⟨fun h => (by rw [hv.out] at h; exact absurd h (by simp)), fun _ => rfl⟩⟩, hB⟩
set_option maxHeartbeats 8000000 in
theorem Contains_v (l : List Sp) (p : Sp → Bool) (g : Nat) (lb : Array Value) (eg : ∀ args w, (callFunc g args).run Try.prog w = .ok (.enter g args) w) (A : Option Addr) (c : Nat) (F : Nat → Prop) (w : World) (hl : l.length ≤ 140737488355328) (r : RdX spE w F A l) (hp : TellsOf g lb p w) :
    Calls Try.prog 27 #[.slice A l.length c, .func (.func g) #[] lb] w fun e w' => e = .returned (.bool (l.any p)) ∧ Below w.heap.size w w' := by
  have HI := Lib.hid (IndexFunc_v l p g lb eg A c F w hl r hp)
  clear r hp
  go_enter Try.func27, Try.ntmps27
  go_wp2_with fail
  refine HI.out.mono ?_
  rintro e u1 ⟨⟨i, rfl, hi⟩, hb⟩
  cases hq : l.any p
  · rw [hq] at hi
    obtain rfl := hi.2 rfl
    have HQ := Lib.hid hq
    clear hq
    go_wp2_with fail
    go_ret
    exact ⟨by rw [HQ.out]; rfl, hb⟩
  · rw [hq] at hi
    replace hi := hi.1 rfl
    have HQ := Lib.hid hq
    clear hq
    go_wp2_with fail
    go_ret
    exact ⟨by rw [HQ.out]; rfl, hb⟩
set_option maxHeartbeats 8000000 in
theorem Has1_v (x : Nat) (t : Sp) (g : Nat) (W : World) (hg : Cs W g 23 #[.int .u32 (x : Int)]) :
    Calls Try.prog 28 #[.agg (spC t).toArray, .pointer (some ⟨g, 0, none⟩)] W fun e w' => e = .returned (.bool (inS t x)) ∧ Below W.heap.size W w' := by
  have HG := Lib.hid hg
  obtain ⟨t1, t2⟩ := t
  have HF := Lib.hid (show inS (t1, t2) x = (decide (t1 ≤ x) && decide (x < t2)) from rfl)
  clear hg
  go_enter Try.func28, Try.ntmps28
  by_cases h1 : t1 ≤ x
  · have e1 : (t1 : Int) ≤ x := by omega
    rw [decide_eq_true h1, Bool.true_and] at HF
    by_cases h2 : x < t2
    · have e2 : (x : Int) < t2 := by omega
      rw [decide_eq_true h2] at HF
      clear h1 h2
      go_wp2_with (first
        | ((with_reducible show wpList _ _ _ _ _ W); refine wpList_boxS rfl 25 _ rfl (spC (t1, t2)) rfl ?_; intro g1 w1 hk1 hb1 hg1; go_frame; have q0 : w1.cell? ⟨g1, 0, none⟩ = some (.int .u32 (t1 : Int)) := hk1.cell 0 rfl; have q1 : w1.cell? ⟨g1, 1, none⟩ = some (.int .u32 (t2 : Int)) := hk1.cell 1 rfl; have q2 : w1.cell? ⟨g, 0, none⟩ = some (.int .u32 (x : Int)) := (HG.out.below hb1 HG.out.lt).cell 0 rfl; have B1 := Lib.hid hb1; clear hk1 hb1 hg1)
        | fail)
      go_ret
      exact ⟨by rw [HF.out]; rfl, B1.out⟩
    · have e2 : ¬ (x : Int) < t2 := by omega
      rw [decide_eq_false h2] at HF
      clear h1 h2
      go_wp2_with (first
        | ((with_reducible show wpList _ _ _ _ _ W); refine wpList_boxS rfl 25 _ rfl (spC (t1, t2)) rfl ?_; intro g1 w1 hk1 hb1 hg1; go_frame; have q0 : w1.cell? ⟨g1, 0, none⟩ = some (.int .u32 (t1 : Int)) := hk1.cell 0 rfl; have q1 : w1.cell? ⟨g1, 1, none⟩ = some (.int .u32 (t2 : Int)) := hk1.cell 1 rfl; have q2 : w1.cell? ⟨g, 0, none⟩ = some (.int .u32 (x : Int)) := (HG.out.below hb1 HG.out.lt).cell 0 rfl; have B1 := Lib.hid hb1; clear hk1 hb1 hg1)
        | fail)
      go_ret
      exact ⟨by rw [HF.out]; rfl, B1.out⟩
  · have e1 : ¬ (t1 : Int) ≤ x := by omega
    rw [decide_eq_false h1, Bool.false_and] at HF
    clear h1
    go_wp2_with (first
      | ((with_reducible show wpList _ _ _ _ _ W); refine wpList_boxS rfl 25 _ rfl (spC (t1, t2)) rfl ?_; intro g1 w1 hk1 hb1 hg1; go_frame; have q0 : w1.cell? ⟨g1, 0, none⟩ = some (.int .u32 (t1 : Int)) := hk1.cell 0 rfl; have q1 : w1.cell? ⟨g1, 1, none⟩ = some (.int .u32 (t2 : Int)) := hk1.cell 1 rfl; have q2 : w1.cell? ⟨g, 0, none⟩ = some (.int .u32 (x : Int)) := (HG.out.below hb1 HG.out.lt).cell 0 rfl; have B1 := Lib.hid hb1; clear hk1 hb1 hg1)
      | fail)
    go_ret
    exact ⟨by rw [HF.out]; rfl, B1.out⟩
set_option maxHeartbeats 8000000 in
theorem Holds1_v (s t : Sp) (g : Nat) (W : World) (hg : Cs W g 25 (spC s).toArray) :
    Calls Try.prog 30 #[.agg (spC t).toArray, .pointer (some ⟨g, 0, none⟩)] W fun e w' => e = .returned (.bool (decide (t.1 ≤ s.1) && decide (s.2 ≤ t.2))) ∧ Below W.heap.size W w' := by
  have HG := Lib.hid hg
  obtain ⟨t1, t2⟩ := t
  obtain ⟨s1, s2⟩ := s
  dsimp only
  clear hg
  go_enter Try.func30, Try.ntmps30
  by_cases h1 : t1 ≤ s1
  · have e1 : (t1 : Int) ≤ s1 := by omega
    rw [decide_eq_true h1, Bool.true_and]
    by_cases h2 : s2 ≤ t2
    · have e2 : (s2 : Int) ≤ t2 := by omega
      rw [decide_eq_true h2]
      clear h1 h2
      go_wp2_with (first
        | ((with_reducible show wpList _ _ _ _ _ W); refine wpList_boxS rfl 25 _ rfl (spC (t1, t2)) rfl ?_; intro g1 w1 hk1 hb1 hg1; go_frame; have q0 : w1.cell? ⟨g1, 0, none⟩ = some (.int .u32 (t1 : Int)) := hk1.cell 0 rfl; have q1 : w1.cell? ⟨g1, 1, none⟩ = some (.int .u32 (t2 : Int)) := hk1.cell 1 rfl; have q2 : w1.cell? ⟨g, 0, none⟩ = some (.int .u32 (s1 : Int)) := (HG.out.below hb1 HG.out.lt).cell 0 rfl; have q3 : w1.cell? ⟨g, 1, none⟩ = some (.int .u32 (s2 : Int)) := (HG.out.below hb1 HG.out.lt).cell 1 rfl; have B1 := Lib.hid hb1; clear hk1 hb1 hg1)
        | fail)
      go_ret
      exact ⟨rfl, B1.out⟩
    · have e2 : ¬ (s2 : Int) ≤ t2 := by omega
      rw [decide_eq_false h2]
      clear h1 h2
      go_wp2_with (first
        | ((with_reducible show wpList _ _ _ _ _ W); refine wpList_boxS rfl 25 _ rfl (spC (t1, t2)) rfl ?_; intro g1 w1 hk1 hb1 hg1; go_frame; have q0 : w1.cell? ⟨g1, 0, none⟩ = some (.int .u32 (t1 : Int)) := hk1.cell 0 rfl; have q1 : w1.cell? ⟨g1, 1, none⟩ = some (.int .u32 (t2 : Int)) := hk1.cell 1 rfl; have q2 : w1.cell? ⟨g, 0, none⟩ = some (.int .u32 (s1 : Int)) := (HG.out.below hb1 HG.out.lt).cell 0 rfl; have q3 : w1.cell? ⟨g, 1, none⟩ = some (.int .u32 (s2 : Int)) := (HG.out.below hb1 HG.out.lt).cell 1 rfl; have B1 := Lib.hid hb1; clear hk1 hb1 hg1)
        | fail)
      go_ret
      exact ⟨rfl, B1.out⟩
  · have e1 : ¬ (t1 : Int) ≤ s1 := by omega
    rw [decide_eq_false h1, Bool.false_and]
    clear h1
    go_wp2_with (first
      | ((with_reducible show wpList _ _ _ _ _ W); refine wpList_boxS rfl 25 _ rfl (spC (t1, t2)) rfl ?_; intro g1 w1 hk1 hb1 hg1; go_frame; have q0 : w1.cell? ⟨g1, 0, none⟩ = some (.int .u32 (t1 : Int)) := hk1.cell 0 rfl; have q1 : w1.cell? ⟨g1, 1, none⟩ = some (.int .u32 (t2 : Int)) := hk1.cell 1 rfl; have q2 : w1.cell? ⟨g, 0, none⟩ = some (.int .u32 (s1 : Int)) := (HG.out.below hb1 HG.out.lt).cell 0 rfl; have q3 : w1.cell? ⟨g, 1, none⟩ = some (.int .u32 (s2 : Int)) := (HG.out.below hb1 HG.out.lt).cell 1 rfl; have B1 := Lib.hid hb1; clear hk1 hb1 hg1)
      | fail)
    go_ret
    exact ⟨rfl, B1.out⟩
set_option maxHeartbeats 8000000 in
theorem Has_v (l : List Sp) (x : Nat) (A : Option Addr) (c : Nat) (F : Nat → Prop) (w : World) (hl : l.length ≤ 140737488355328) (r : RdX spE w F A l) :
    Calls Try.prog 15 #[.slice A l.length c, .int .u32 (x : Int)] w fun e w' => e = .returned (.bool (hasP l x)) ∧ Below w.heap.size w w' := by
  have HM := Lib.hid fun (u : World) (hb : Below w.heap.size w u) => May_v l A c F u hl (r.below hb)
  have HI := Lib.hid fun (g : Nat) (u : World) (hb : Below w.heap.size w u) (hg : Cs u g 23 #[.int .u32 (x : Int)]) =>
    Contains_v l (fun t => inS t x) 28 #[.pointer (some ⟨g, 0, none⟩)] (enters_of Try.func28 (by kernel_rfl) rfl) A c F u hl (r.below hb) fun W t h => Has1_v x t g W (hg.below h hg.lt)
  clear r
  have HH := Lib.hid (show hasP l x = (mayS l && l.any (fun t => inS t x)) from rfl)
  go_enter Try.func15, Try.ntmps15
  go_wp2_with fail
  have C1 := Lib.hid (Cs.new w 23 #[.int .u32 (x : Int)])
  have hb1 := (Below.refl w.heap.size w).alloc (Nat.le_refl _) (.cells #[.int .u32 (x : Int)] 23)
  generalize w.alloc (.cells #[.int .u32 (x : Int)] 23) = w1 at *
  have B1 := Lib.hid hb1
  clear hb1
  refine (HM.out _ B1.out).mono ?_
  rintro e u1 ⟨rfl, hb⟩
  have B2 := Lib.hid (below_chain B1.out hb)
  have C2 := Lib.hid (C1.out.below hb C1.out.lt)
  clear hb
  cases hm : mayS l
  · rw [hm] at HH
    clear hm
    go_wp2_with fail
    go_ret
    exact ⟨by rw [HH.out]; rfl, B2.out⟩
  · rw [hm] at HH
    clear hm
    go_wp2_with fail
    refine (HI.out _ _ B2.out C2.out).mono ?_
    rintro e u2 ⟨rfl, hb⟩
    have B3 := Lib.hid (below_chain B2.out hb)
    clear hb
    go_wp2_with fail
    go_ret
    exact ⟨by rw [HH.out]; first | rfl | simp, B3.out⟩
set_option maxHeartbeats 8000000 in
theorem Holds_v (l : List Sp) (s : Sp) (A : Option Addr) (c : Nat) (F : Nat → Prop) (w : World) (hl : l.length ≤ 140737488355328) (r : RdX spE w F A l) :
    Calls Try.prog 17 #[.slice A l.length c, .agg (spC s).toArray] w fun e w' => e = .returned (.bool (holdsP l s)) ∧ Below w.heap.size w w' := by
  have HM := Lib.hid fun (u : World) (hb : Below w.heap.size w u) => May_v l A c F u hl (r.below hb)
  have HI := Lib.hid fun (g : Nat) (u : World) (hb : Below w.heap.size w u) (hg : Cs u g 25 (spC s).toArray) =>
    Contains_v l (fun t => decide (t.1 ≤ s.1) && decide (s.2 ≤ t.2)) 30 #[.pointer (some ⟨g, 0, none⟩)] (enters_of Try.func30 (by kernel_rfl) rfl) A c F u hl (r.below hb) fun W t h => Holds1_v s t g W (hg.below h hg.lt)
  clear r
  have HH := Lib.hid (show holdsP l s = (mayS l && (decide (s.1 ≤ s.2) && ((l.any fun t => decide (t.1 ≤ s.1) && decide (s.2 ≤ t.2)) || s.1 == s.2))) from rfl)
  go_enter Try.func17, Try.ntmps17
  go_wp2_with (first
    | ((with_reducible show wpList _ _ _ _ _ w); refine wpList_boxS rfl 25 _ rfl (spC s) rfl ?_; intro g1 w1 hk1 hb1 hg1; go_frame; have C1 := Lib.hid hk1; have B1 := Lib.hid hb1; have G1 := Lib.hid hg1; clear hk1 hb1 hg1)
    | fail)
  refine (HM.out _ B1.out).mono ?_
  rintro e w2 ⟨rfl, hb⟩
  have B2 := Lib.hid (below_chain B1.out hb)
  have C2 := Lib.hid (C1.out.below hb C1.out.lt)
  clear hb
  have q0 : w2.cell? ⟨g1, 0, none⟩ = some (.int .u32 (s.1 : Int)) := C2.out.cell 0 rfl
  have q1 : w2.cell? ⟨g1, 1, none⟩ = some (.int .u32 (s.2 : Int)) := C2.out.cell 1 rfl
  cases hm : mayS l
  · rw [hm] at HH
    clear hm
    go_wp2_with fail
    go_ret
    exact ⟨by rw [HH.out]; rfl, B2.out⟩
  · rw [hm] at HH
    clear hm
    by_cases hs : s.1 ≤ s.2
    · have e1 : ¬ s.2 < s.1 := by omega
      rw [decide_eq_true hs] at HH
      by_cases h3 : s.1 = s.2
      · have e3 : (s.1 : Int) = s.2 := by omega
        have HE := Lib.hid (show (s.1 == s.2) = true by simpa using h3)
        clear h3 hs
        go_wp2_with fail
        go_ret
        exact ⟨by rw [HH.out, HE.out]; simp, B2.out⟩
      · have e3 : ¬ (s.1 : Int) = s.2 := by omega
        have HE := Lib.hid (show (s.1 == s.2) = false by simpa using h3)
        clear h3 hs
        go_wp2_with fail
        refine (HI.out _ _ B2.out C2.out).mono ?_
        rintro e u2 ⟨rfl, hb⟩
        have B3 := Lib.hid (below_chain B2.out hb)
        clear hb
        go_wp2_with fail
        go_ret
        exact ⟨by rw [HH.out, HE.out]; simp [e3], B3.out⟩
    · have e1 : s.2 < s.1 := by omega
      rw [decide_eq_false hs] at HH
      clear hs
      go_wp2_with fail
      go_ret
      exact ⟨by rw [HH.out]; simp, B2.out⟩

end Go.Proofs.Ythjcnijageiaiaa
