/- Copy, Wide, Left: bytes of their own memory, with room behind them in which 9 stands. -/
import Derived.Test.YtdlpnndoifdamaaNumLives
import Derived.OwnWalk
import Derived.Laws.AppendOwnNone
import Derived.Maps.AppendAt
namespace Go.Proofs.Ytdlpnndoifdamaa
open Go.RowKit Go.Shelf
set_option linter.unusedVariables false

/-- bytes as cells -/
def cellsOf (l : List UInt8) : List Value := l.map fun c => .int .u8 (c.toNat : Int)
theorem cellsOf_length (l : List UInt8) : (cellsOf l).length = l.length := by simp [cellsOf]
theorem cellsOf_one (l : List UInt8) : ∀ u ∈ cellsOf l, u.oneCell' = true := by
  intro u hu
  simp only [cellsOf, List.mem_map] at hu
  obtain ⟨c, _, rfl⟩ := hu
  rfl
theorem cellsOf_append (p q : List UInt8) : cellsOf (p ++ q) = cellsOf p ++ cellsOf q := by simp [cellsOf]
theorem rd_cells {W : World} {a : Addr} {l : List UInt8} (h : Rd W (some a) l) : ∀ j u, (cellsOf l)[j]? = some u → W.cell? (a.add j) = some u := by
  intro j u hu
  rcases h with rfl | ⟨b, off, e, hc⟩
  · simp [cellsOf] at hu
  · cases e
    have hj : j < l.length := by
      rcases Nat.lt_or_ge j l.length with h1 | h1
      · exact h1
      · rw [List.getElem?_eq_none (by rw [cellsOf_length]; exact h1)] at hu; cases hu
    have e1 : (⟨b, off, none⟩ : Addr).add j = ⟨b, off + j, none⟩ := by
      unfold Addr.add
      split <;> simp_all
    rw [e1, hc j hj]
    simp only [cellsOf, List.getElem?_map, List.getElem?_eq_getElem hj, Option.map_some, Option.some.injEq] at hu
    rw [hu]
theorem own_rd {W : World} {base g n cap : Nat} {l : List UInt8} (h : W.ownsRow base 5 1 (.slice (some ⟨g, 0, none⟩) n cap) n (cellsOf l)) : Rd W (some ⟨g, 0, none⟩) l := by
  refine .inr ⟨g, 0, rfl, fun j hj => ?_⟩
  have := h.cells (g := g) rfl j (.int .u8 (l[j].toNat : Int)) (by simp [cellsOf, List.getElem?_eq_getElem hj])
  have e1 : (⟨g, 0, none⟩ : Addr).add j = ⟨g, 0 + j, none⟩ := by
    unfold Addr.add
    split <;> simp_all
  rw [e1] at this
  exact this
theorem rd_prefix {W : World} {A : Option Addr} {p q : List UInt8} (h : Rd W A (p ++ q)) : Rd W A p := by
  rcases h with h | ⟨b, off, e, hc⟩
  · exact .inl (List.append_eq_nil_iff.1 h).1
  · refine .inr ⟨b, off, e, fun j hj => ?_⟩
    rw [hc j (by rw [List.length_append]; omega), List.getElem_append_left hj]

theorem own_caps {W : World} {base g n cap : Nat} {e : TypeId} {xs : List Value} (h : W.ownsRow base e 1 (.slice (some ⟨g, 0, none⟩) n cap) n xs) : n ≤ cap ∧ cap ≤ maxLen := by
  rcases h.2 with ⟨h0, _⟩ | ⟨g', cap', cur, hv, _, _, h1, h2, _⟩
  · cases h0
  · cases hv; exact ⟨h1, h2⟩

theorem Try_info5 : (Try.prog.info? 5).map (fun i => (i.zero, i.size, i.bytes)) = some (some (.int .u8 0), 1, 1) := by kernel_rfl

/-- what a call hands back: a slice of its own -/
def OwnRet (B : Nat) (l : List UInt8) (w : World) (e : Ending) (W' : World) : Prop :=
  ∃ v, e = .returned v ∧ W'.ownsRow B 5 1 v l.length (cellsOf l) ∧ Below B w W'

set_option maxHeartbeats 1000000 in
theorem Copy_any (l : List UInt8) (A : Option Addr) (c : Nat) (w : World) (hl : l.length ≤ 140737488355328) (hr : Rd w A l) (hA : A = none → l = [] ∧ c = 0) :
    Calls Try.prog 21 #[.slice A l.length c] w fun e W' => OwnRet w.heap.size l w e W' := by
  obtain ⟨i0, hi, hz0, hz1, hz2⟩ := info_parts Try_info5
  rcases A with _ | a
  · obtain ⟨rfl, rfl⟩ := hA rfl
    go_enter Try.func21, Try.ntmps21
    go_wp2
    go_ret
    exact ⟨_, rfl, World.ownsRow_nil _ _ _ _, Below.refl _ _⟩
  · have hc := rd_cells hr
    have hone := cellsOf_one l
    have HC := Lib.hid hc
    have HO := Lib.hid hone
    clear hc hone hr hA
    go_enter Try.func21, Try.ntmps21
    go_wp2_with (at_builtin; refine wpList_append_own _ rfl (.tmp 4) (.tmp 5) 23 rfl w.heap.size 5 i0 (.int .u8 0) 1 1 Try.underlying23 hi hz0 hz1 hz2 rfl (by decide) (.slice none 0 0) 0 [] rfl (World.ownsRow_nil _ _ _ _) a l.length c (cellsOf l) rfl (by rw [cellsOf_length, Nat.mul_one]) HC.out HO.out (by simp only [maxLen]; omega) (by omega) (Nat.le_refl _) ?_; intro v' w1 hown hgrow _)
    rw [Nat.zero_add, List.nil_append] at hown
    go_ret
    exact ⟨_, rfl, hown, (Below.refl _ _).grown hgrow (Nat.le_refl _) (fun k e => by cases e)⟩

/-- what Wide hands back: l, and three bytes of 9 behind it, in a block of its own -/
def WideRet (l : List UInt8) (w : World) (e : Ending) (W' : World) : Prop :=
  ∃ g cap, e = .returned (.slice (some ⟨g, 0, none⟩) l.length cap) ∧ l.length + 3 ≤ cap ∧ cap ≤ maxLen ∧ Rd W' (some ⟨g, 0, none⟩) (l ++ [9, 9, 9]) ∧ Below w.heap.size w W'

set_option maxHeartbeats 1000000 in
theorem Wide_any (l : List UInt8) (A : Option Addr) (c : Nat) (w : World) (hl : l.length + 3 ≤ 140737488355328) (hr : Rd w A l) (hA : A = none → l = [] ∧ c = 0) :
    Calls Try.prog 7 #[.slice A l.length c] w fun e W' => WideRet l w e W' := by
  obtain ⟨i0, hi, hz0, hz1, hz2⟩ := info_parts Try_info5
  have hcopy := Copy_any l A c w (by omega) hr hA
  clear hr hA
  go_enter Try.func7, Try.ntmps7
  go_wp2_with fail
  refine hcopy.mono ?_
  clear hcopy
  rintro e w1 ⟨v, rfl, hown, hb⟩
  have hsz := hb.size
  have c9 := Cs.new w1 5 #[.int .u8 9, .int .u8 9, .int .u8 9]
  have h9 := Lib.hid (rd_cells (rd_cs (l := [9, 9, 9]) c9 rfl))
  clear c9
  go_wp2_with (at_builtin; refine wpList_append_own _ rfl (.tmp 6) (.tmp 7) 23 rfl w.heap.size 5 i0 (.int .u8 0) 1 1 Try.underlying23 hi hz0 hz1 hz2 rfl (by decide) v l.length (cellsOf l) rfl (hown.alloc _) ⟨w1.heap.size, 0, none⟩ 3 3 (cellsOf [9, 9, 9]) rfl rfl h9.out (cellsOf_one _) (by simp only [maxLen]; omega) (by omega) (by simp; omega) ?_; intro v' w2 hown2 hgrow2 _; obtain ⟨g, cap, rfl⟩ := ownsRow_succ hown2; obtain ⟨hlc, hcm⟩ := own_caps hown2; have hcm' := hcm; unfold maxLen at hcm')
  go_ret
  rw [← cellsOf_append] at hown2
  refine ⟨g, cap, rfl, hlc, hcm, own_rd hown2, (hb.alloc hsz _).grown hgrow2 (by simp; omega) (fun k e => ?_)⟩
  rcases hown.2 with ⟨rfl, _⟩ | ⟨g', cap', cur, rfl, hg, _⟩
  · cases e
  · cases e; exact hg

theorem nines {W : World} {g : Nat} {l : List UInt8} (h : Rd W (some ⟨g, 0, none⟩) (l ++ [9, 9, 9])) :
    W.cell? ⟨g, l.length, none⟩ = some (.int .u8 9) ∧ W.cell? ⟨g, l.length + 1, none⟩ = some (.int .u8 9) ∧ W.cell? ⟨g, l.length + 2, none⟩ = some (.int .u8 9) := by
  rcases h with h | ⟨b, off, e, hc⟩
  · simp at h
  · cases e
    have h0 := hc l.length (by simp)
    have h1 := hc (l.length + 1) (by simp)
    have h2 := hc (l.length + 2) (by simp)
    simp at h0 h1 h2
    exact ⟨h0, h1, h2⟩

set_option maxHeartbeats 1000000 in
theorem Left_any (l : List UInt8) (A : Option Addr) (c g cap : Nat) (w : World) (hcap : l.length + 3 ≤ cap) (hm : cap ≤ maxLen) (hv : Rd w (some ⟨g, 0, none⟩) (l ++ [9, 9, 9])) (hr : Rd w A l) :
    Calls Try.prog 19 #[.slice (some ⟨g, 0, none⟩) l.length cap, .slice A l.length c] w fun e W' => e = .returned (.bool true) ∧ w = W' := by
  have hsame := Same_any (some ⟨g, 0, none⟩) A l l cap c w (rd_prefix hv) hr
  rw [show (l == l) = true by simp] at hsame
  obtain ⟨n0, n1, n2⟩ := nines hv
  unfold maxLen at hm
  clear hv hr
  go_enter Try.func19, Try.ntmps19
  go_wp2_with (go_at_call 14; refine hsame.mono ?_; rintro e w' ⟨rfl, rfl⟩)
  go_ret
  exact ⟨rfl, rfl⟩

end Go.Proofs.Ytdlpnndoifdamaa
