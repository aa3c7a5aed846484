/- SWEPT -/
import Derived.Test.YtfgbpinfplllgaaGreatDoorZStAs
import Derived.Test.YtfgbpinfplllgaaGreatDoorZWordsK
set_option linter.unusedVariables false
set_option linter.unusedSimpArgs false
open Go.Lib (hid)
namespace Go.Proofs.YtfgbpinfplllgaaGreatDoor
open Go.RowKit Go.Extern.Stop Go.Stop Go.Extern Go.Shelf
set_option maxRecDepth 100000
def ErV (w : World) (F : Nat → Prop) (v : Value) (n : Int) : Prop := (n = 0 ∧ v = .nilIface) ∨ (n ≠ 0 ∧ ∃ g, v = .iface 181 (.pointer (some ⟨g, 0, none⟩)) ∧ F g ∧ w.cell? ⟨g, 0 + 1, none⟩ = some (.iface 25 (.int .i64 n)))
theorem ErV.below {w w' : World} {F : Nat → Prop} {v : Value} {n : Int} (h : ErV w F v n) (hb : Below w.heap.size w w') : ErV w' F v n := by
  rcases h with h | ⟨hn, g, h1, h2, h3⟩
  · exact .inl h
  · exact .inr ⟨hn, g, h1, h2, (hb.cell (cell_lt h3)).trans h3⟩
theorem ErV.turn {w w' : World} {F G : Nat → Prop} {v : Value} {n : Int} (h : ErV w F v n) (ht : Turn w w' G) (hG : ∀ k, F k → ¬ G k) : ErV w' F v n := by
  rcases h with h | ⟨hn, g, h1, h2, h3⟩
  · exact .inl h
  · exact .inr ⟨hn, g, h1, h2, (World.cell?_of_block (w := w) (ht.block g (cell_lt h3) (hG g h2))).trans h3⟩
theorem ErV.mono {w : World} {F G : Nat → Prop} {v : Value} {n : Int} (h : ErV w F v n) (hG : ∀ k, k < w.heap.size → F k → G k) : ErV w G v n := by
  rcases h with h | ⟨hn, g, h1, h2, h3⟩
  · exact .inl h
  · exact .inr ⟨hn, g, h1, hG g (cell_lt h3) h2, h3⟩
theorem ErV.nil (w : World) (F : Nat → Prop) : ErV w F .nilIface 0 := .inl ⟨rfl, rfl⟩
theorem wrap_v (t : ByteArray) (n : Int) (w : World) : Calls Tryz.prog 86 #[.string t, .int .i64 n] w fun e w' => ∃ v, e = .returned v ∧ ErV w' (w.heap.size ≤ ·) v n ∧ Below w.heap.size w w' := by
  by_cases h : n = 0
  · subst h
    go_enter Tryz.func86, Tryz.ntmps86
    go_wp2
    go_ret
    exact ⟨_, rfl, ErV.nil _ _, Below.refl _ _⟩
  · have hq : (n == 0) = false := by simpa using h
    have HN := hid h
    clear h
    go_enter Tryz.func86, Tryz.ntmps86
    go_wp2
    go_ret
    exact ⟨_, rfl, .inr ⟨HN.out, _, rfl, Nat.le_refl _, by simp⟩, (Below.refl _ _).alloc (Nat.le_refl _) _⟩
theorem isFull_v {F : Nat → Prop} (v : Value) (n : Int) (w : World) (h : ErV w F v n) : Calls Tryz.prog 48 #[v] w fun e w' => e = .returned (.bool (n == 10 || n == 3)) ∧ w = w' := by
  rcases h with ⟨rfl, rfl⟩ | ⟨hn, g, rfl, -, hc⟩
  · have i1 := Is_nil 10 w
    have i2 := Is_nil 3 w
    go_enter Tryz.func48, Tryz.ntmps48
    go_wp2_with fail
    refine i1.mono ?_
    rintro e w' ⟨rfl, rfl⟩
    go_wp2_with fail
    refine i2.mono ?_
    rintro e w' ⟨rfl, rfl⟩
    go_wp2_with fail
    go_ret
    exact ⟨rfl, rfl⟩
  · have i1 := Is_failed g n 10 w hc
    have i2 := Is_failed g n 3 w hc
    clear hc hn
    cases h1 : (n == 10) <;> cases h2 : (n == 3) <;> rw [h1] at i1 <;> rw [h2] at i2
    · go_enter Tryz.func48, Tryz.ntmps48
      go_wp2_with fail
      refine i1.mono ?_
      rintro e w' ⟨rfl, rfl⟩
      go_wp2_with fail
      refine i2.mono ?_
      rintro e w' ⟨rfl, rfl⟩
      go_wp2_with fail
      go_ret
      exact ⟨rfl, rfl⟩
    · go_enter Tryz.func48, Tryz.ntmps48
      go_wp2_with fail
      refine i1.mono ?_
      rintro e w' ⟨rfl, rfl⟩
      go_wp2_with fail
      refine i2.mono ?_
      rintro e w' ⟨rfl, rfl⟩
      go_wp2_with fail
      go_ret
      exact ⟨rfl, rfl⟩
    all_goals
      go_enter Tryz.func48, Tryz.ntmps48
      go_wp2_with fail
      refine i1.mono ?_
      rintro e w' ⟨rfl, rfl⟩
      go_wp2_with fail
      go_ret
      exact ⟨rfl, rfl⟩
theorem number_v {F : Nat → Prop} (v : Value) (n : Int) (w : World) (hg : LaidErr w) (h : ErV w F v n) : Calls Tryz.prog 49 #[v] w fun e w' => e = .returned (.int .i64 n) ∧ Below w.heap.size w w' := by
  rcases h with ⟨rfl, rfl⟩ | ⟨hn, g, rfl, -, hc⟩
  · go_enter Tryz.func49, Tryz.ntmps49
    go_wp2_with (go_at_call 97; refine (As_nil _ _).mono ?_; rintro e w' ⟨rfl, rfl⟩)
    go_ret
    exact ⟨rfl, ((Below.refl _ _).alloc (Nat.le_refl _) _).alloc (by simp) _⟩
  · have hb1 : Below w.heap.size w (w.alloc (.cells #[.pointer none] 154)) := (Below.refl _ _).alloc (Nat.le_refl _) _
    have a1 := fun t => As_FB g n t _ (hg.below hb1) ((hb1.cell (cell_lt hc)).trans hc)
    have HB := hid hb1
    have HG := hid hg
    have HC := hid hc
    clear hb1 hg hc hn
    go_enter Tryz.func49, Tryz.ntmps49
    go_wp2_with fail
    refine (a1 _).mono ?_
    rintro e w1 ⟨rfl, hb⟩
    have hb2 := below_chain HB.out hb
    have B3 := hid (hb2.alloc hb2.size (.cells #[.int .i64 0] 25))
    have LE := hid (show w.heap.size ≤ w1.heap.size from hb2.size)
    clear hb hb2
    go_wp2_with fail
    refine (As_FE g n (.int .i64 0) _ _ (HG.out.below B3.out) ((B3.out.cell (cell_lt HC.out)).trans HC.out) (by simp) (by simp)).mono ?_
    rintro e w2 ⟨rfl, W, hb, rfl⟩
    have hb4 := below_chain B3.out hb
    have hW : w1.heap.size < W.heap.size := by have := hb.size; simp at this; omega
    have hle := LE.out
    have hcell : (W.setCell ⟨w1.heap.size, 0, none⟩ (.int .i64 n)).cell? ⟨w1.heap.size, 0, none⟩ = some (.int .i64 n) :=
      World.cell?_setCell_same' _ _ _ (by rw [hb.cell (by simp)]; simp)
    have B5 := hid (hb4.setCell (p := ⟨w1.heap.size, 0, none⟩) hle (.int .i64 n))
    clear hb hb4 hW hle
    go_wp2_with fail
    go_ret
    exact ⟨rfl, B5.out⟩
theorem number_broken (q : Addr) (w : World) (hg : LaidErr w) : Calls Tryz.prog 49 #[.iface 154 (.pointer (some q))] w fun e w' => e = .returned (.int .i64 5) ∧ Below w.heap.size w w' := by
  have hb1 : Below w.heap.size w (w.alloc (.cells #[.pointer none] 154)) := (Below.refl _ _).alloc (Nat.le_refl _) _
  have HB := hid hb1
  have HG := hid hg
  clear hb1 hg
  go_enter Tryz.func49, Tryz.ntmps49
  go_wp2_with fail
  refine (As_BB q (.pointer none) _ _ (HG.out.below HB.out) (by simp) (by simp)).mono ?_
  rintro e w2 ⟨rfl, W, hb, rfl⟩
  have hb4 := below_chain HB.out hb
  have B5 := hid (hb4.setCell (p := ⟨w.heap.size, 0, none⟩) (Nat.le_refl _) (.pointer (some q)))
  clear hb hb4
  go_wp2_with fail
  go_ret
  exact ⟨rfl, B5.out⟩
end Go.Proofs.YtfgbpinfplllgaaGreatDoor
