/- The shared reference: Same, Copy, Wide, Left. -/
import Derived.Test.YtlhbipommhljiaaWords
namespace Go.Proofs.Ytlhbipommhljiaa
open Go.RowKit Go.Shelf
set_option linter.unusedVariables false

theorem Same_any (A B : Option Addr) (p q : List UInt8) (ca cb : Nat) (w : World) (hA : Rd w A p) (hB : Rd w B q) :
    Calls Try.prog 11 #[.slice A p.length ca, .slice B q.length cb] w fun e w' => e = .returned (.bool (p == q)) ∧ w = w' := by
  have k1 := conv_rd hA ca
  have k2 := conv_rd hB cb
  clear hA hB
  go_enter Try.func11, Try.ntmps11
  go_wp2
  go_ret
  exact ⟨rfl, rfl⟩
/-- what a call hands back: a slice of its own -/
def OwnRet (B : Nat) (l : List UInt8) (w : World) (e : Ending) (W' : World) : Prop :=
  ∃ v, e = .returned v ∧ W'.ownsRow B 5 1 v l.length (cellsOf l) ∧ Below B w W'
set_option maxHeartbeats 1000000 in
theorem Copy_any (l : List UInt8) (A : Option Addr) (c : Nat) (w : World) (hl : l.length ≤ 140737488355328) (hr : Rd w A l) (hA : A = none → l = [] ∧ c = 0) :
    Calls Try.prog 19 #[.slice A l.length c] w fun e W' => OwnRet w.heap.size l w e W' := by
  obtain ⟨i0, hi, hz0, hz1, hz2⟩ := info_parts Try_info5
  rcases A with _ | a
  · obtain ⟨rfl, rfl⟩ := hA rfl
    go_enter Try.func19, Try.ntmps19
    go_wp2
    go_ret
    exact ⟨_, rfl, World.ownsRow_nil _ _ _ _, Below.refl _ _⟩
  · have hc := rd_cells hr
    have hone := cellsOf_one l
    have HC := Lib.hid hc
    have HO := Lib.hid hone
    clear hc hone hr hA
    go_enter Try.func19, Try.ntmps19
    go_wp2_with (at_builtin; refine wpList_append_own _ rfl (.tmp 4) (.tmp 5) 23 rfl w.heap.size 5 i0 (.int .u8 0) 1 1 Try.underlying23 hi hz0 hz1 hz2 rfl (by decide) (.slice none 0 0) 0 [] rfl (World.ownsRow_nil _ _ _ _) a l.length c (cellsOf l) rfl (by rw [cellsOf_length, Nat.mul_one]) HC.out HO.out (by simp only [maxLen]; omega) (by omega) (Nat.le_refl _) ?_; intro v' w1 hown hgrow _)
    rw [Nat.zero_add, List.nil_append] at hown
    go_ret
    exact ⟨_, rfl, hown, (Below.refl _ _).grown hgrow (Nat.le_refl _) (fun k e => by cases e)⟩
/-- what Wide hands back: l, and three bytes of 9 behind it, in a block of its own -/
def WideRet (l : List UInt8) (w : World) (e : Ending) (W' : World) : Prop :=
  ∃ g cap, e = .returned (.slice (some ⟨g, 0, none⟩) l.length cap) ∧ l.length + 3 ≤ cap ∧ cap ≤ maxLen ∧ Rd W' (some ⟨g, 0, none⟩) (l ++ [9, 9, 9]) ∧ Below w.heap.size w W'
set_option maxHeartbeats 1000000 in
theorem Wide_any (l : List UInt8) (A : Option Addr) (c : Nat) (w : World) (hl : l.length + 3 ≤ 140737488355328) (hr : Rd w A l) (hA : A = none → l = [] ∧ c = 0) :
    Calls Try.prog 6 #[.slice A l.length c] w fun e W' => WideRet l w e W' := by
  obtain ⟨i0, hi, hz0, hz1, hz2⟩ := info_parts Try_info5
  have hcopy := Copy_any l A c w (by omega) hr hA
  clear hr hA
  go_enter Try.func6, Try.ntmps6
  go_wp2_with fail
  refine hcopy.mono ?_
  clear hcopy
  rintro e w1 ⟨v, rfl, hown, hb⟩
  have hsz := hb.size
  have c9 := Cs.new w1 5 #[.int .u8 9, .int .u8 9, .int .u8 9]
  have h9 := Lib.hid (rd_cells (rd_cs (l := [9, 9, 9]) c9 rfl))
  clear c9
  go_wp2_with (at_builtin; refine wpList_append_own _ rfl (.tmp 6) (.tmp 7) 23 rfl w.heap.size 5 i0 (.int .u8 0) 1 1 Try.underlying23 hi hz0 hz1 hz2 rfl (by decide) v l.length (cellsOf l) rfl (hown.alloc _) ⟨w1.heap.size, 0, none⟩ 3 3 (cellsOf [9, 9, 9]) rfl rfl h9.out (cellsOf_one _) (by simp only [maxLen]; omega) (by omega) (by simp; omega) ?_; intro v' w2 hown2 hgrow2 _; obtain ⟨g, cap, rfl⟩ := ownsRow_succ hown2; obtain ⟨hlc, hcm⟩ := own_caps hown2; have hcm' := hcm; unfold maxLen at hcm')
  go_ret
  rw [← cellsOf_append] at hown2
  refine ⟨g, cap, rfl, hlc, hcm, own_rd hown2, (hb.alloc hsz _).grown hgrow2 (by simp; omega) (fun k e => ?_)⟩
  rcases hown.2 with ⟨rfl, _⟩ | ⟨g', cap', cur, rfl, hg, _⟩
  · cases e
  · cases e; exact hg
theorem nines {W : World} {g : Nat} {l : List UInt8} (h : Rd W (some ⟨g, 0, none⟩) (l ++ [9, 9, 9])) :
    W.cell? ⟨g, l.length, none⟩ = some (.int .u8 9) ∧ W.cell? ⟨g, l.length + 1, none⟩ = some (.int .u8 9) ∧ W.cell? ⟨g, l.length + 2, none⟩ = some (.int .u8 9) := by
  rcases h with h | ⟨b, off, e, hc⟩
  · simp at h
  · cases e
    have h0 := hc l.length (by simp)
    have h1 := hc (l.length + 1) (by simp)
    have h2 := hc (l.length + 2) (by simp)
    simp at h0 h1 h2
    exact ⟨h0, h1, h2⟩
set_option maxHeartbeats 1000000 in
theorem Left_any (l : List UInt8) (A : Option Addr) (c g cap : Nat) (w : World) (hcap : l.length + 3 ≤ cap) (hm : cap ≤ maxLen) (hv : Rd w (some ⟨g, 0, none⟩) (l ++ [9, 9, 9])) (hr : Rd w A l) :
    Calls Try.prog 12 #[.slice (some ⟨g, 0, none⟩) l.length cap, .slice A l.length c] w fun e W' => e = .returned (.bool true) ∧ w = W' := by
  have hsame := Same_any (some ⟨g, 0, none⟩) A l l cap c w (rd_prefix hv) hr
  rw [show (l == l) = true by simp] at hsame
  obtain ⟨n0, n1, n2⟩ := nines hv
  unfold maxLen at hm
  clear hv hr
  go_enter Try.func12, Try.ntmps12
  go_wp2_with (go_at_call 11; refine hsame.mono ?_; rintro e w' ⟨rfl, rfl⟩)
  go_ret
  exact ⟨rfl, rfl⟩

end Go.Proofs.Ytlhbipommhljiaa
