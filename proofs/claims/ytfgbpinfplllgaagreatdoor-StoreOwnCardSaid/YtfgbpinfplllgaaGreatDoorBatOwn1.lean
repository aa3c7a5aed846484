/- SWEPT -/
import Derived.BigQuiet
import Derived.Test.YtfgbpinfplllgaaGreatDoorBatRK
import Derived.Test.YtfgbpinfplllgaaGreatDoorBchAK
import Derived.Test.YtfgbpinfplllgaaGreatDoorTblK
import Derived.Test.YtfgbpinfplllgaaGreatDoorWordsK
set_option linter.unusedVariables false
set_option linter.unusedSimpArgs false
namespace Go.Proofs.YtfgbpinfplllgaaGreatDoor
open Go.RowKit Go.Shelf
set_option maxRecDepth 100000
def NineV (w : World) (F : Nat → Prop) (v : Value) (l : List UInt8) : Prop := ∃ g cap, v = .slice (some ⟨g, 0, none⟩) l.length cap ∧ F g ∧ g < w.heap.size ∧ l.length + 3 ≤ cap ∧ cap ≤ maxLen ∧ Rd w (some ⟨g, 0, none⟩) (l ++ [9, 9, 9])
theorem NineV.turn {w w' : World} {F G : Nat → Prop} {v : Value} {l : List UInt8} (h : NineV w F v l) (ht : Turn w w' G) (hG : ∀ k, F k → ¬ G k) : NineV w' F v l := by
  obtain ⟨g, cap, rfl, h1, h2, h3, h4, h5⟩ := h
  refine ⟨g, cap, rfl, h1, Nat.lt_of_lt_of_le h2 ht.size, h3, h4, ?_⟩
  rcases h5 with h | ⟨b, off, e, hc⟩
  · simp at h
  · cases e
    exact .inr ⟨g, 0, rfl, fun j hj => (World.cell?_of_block (w := w) (ht.block g h2 (hG g h1))).trans (hc j hj)⟩
theorem NineV.mono {w : World} {F G : Nat → Prop} {v : Value} {l : List UInt8} (h : NineV w F v l) (hF : ∀ k, k < w.heap.size → F k → G k) : NineV w G v l := by
  obtain ⟨g, cap, rfl, h1, h2, h3⟩ := h
  exact ⟨g, cap, rfl, hF g h2 h1, h2, h3⟩
theorem NineV.below {w w' : World} {F : Nat → Prop} {v : Value} {l : List UInt8} (h : NineV w F v l) (hb : Below w.heap.size w w') : NineV w' F v l := h.turn (Turn.of_below hb fun _ => False) fun _ _ h => h
theorem NineV.bs {w : World} {F : Nat → Prop} {v : Value} {l : List UInt8} (h : NineV w F v l) : BsV w F v l := by
  obtain ⟨g, cap, rfl, h1, h2, h3, h4, h5⟩ := h
  exact ⟨_, cap, rfl, (rd_prefix h5).f fun b off e _ => (by cases e; exact h1), (fun e => by cases e), by omega, h4⟩
end Go.Proofs.YtfgbpinfplllgaaGreatDoor
