/- SWEPT -/
import Derived.Test.YtfgbpinfplllgaaGreatDoorJourDK
import Derived.Test.YtfgbpinfplllgaaGreatDoorTblK
set_option linter.unusedVariables false
set_option linter.unusedSimpArgs false
namespace Go.Proofs.YtfgbpinfplllgaaGreatDoor
open Go.RowKit Go.Shelf
set_option maxRecDepth 100000
def OV (w : World) (F : Nat → Prop) (H jb d : Nat) (bts : List (List UInt8)) (used frm : Nat) (next : Int) (K : Nat) : Prop := ∃ v s, OnJ w jb d v ⟨frm, bts, used, 0, next⟩ s H F ∧ Quiet s H K
theorem OV.turn {w w' : World} {F G : Nat → Prop} {H jb d : Nat} {bts : List (List UInt8)} {used frm : Nat} {next : Int} {K : Nat} (h : OV w F H jb d bts used frm next K) (ht : Turn w w' G) (hG : ∀ k, F k → ¬ G k) : OV w' F H jb d bts used frm next K := by
  obtain ⟨v, s, h1, h2⟩ := h
  exact ⟨v, s, h1.turn ht hG, h2⟩
theorem OV.below {w w' : World} {F : Nat → Prop} {H jb d : Nat} {bts : List (List UInt8)} {used frm : Nat} {next : Int} {K : Nat} (h : OV w F H jb d bts used frm next K) (hb : Below w.heap.size w w') : OV w' F H jb d bts used frm next K := h.turn (Turn.of_below hb fun _ => False) fun _ _ h => h
theorem OV.mono {w : World} {F G : Nat → Prop} {H jb d : Nat} {bts : List (List UInt8)} {used frm : Nat} {next : Int} {K : Nat} (h : OV w F H jb d bts used frm next K) (hG : ∀ k, k < w.heap.size → F k → G k) : OV w G H jb d bts used frm next K := by
  obtain ⟨v, s, h1, h2⟩ := h
  exact ⟨v, s, h1.mono hG, h2⟩
theorem OV.of {w : World} {F : Nat → Prop} {H jb d : Nat} {v : Value} {j : JS} {s : DS} {K : Nat} (h : OnJ w jb d v j s H F) (hq : Quiet s H K) (hf : j.first = 0) : OV w F H jb d j.batches j.used j.frm j.next K := by
  refine ⟨v, s, ?_, hq⟩
  have : (⟨j.frm, j.batches, j.used, 0, j.next⟩ : JS) = j := by rw [← hf]
  rw [this]
  exact h
end Go.Proofs.YtfgbpinfplllgaaGreatDoor
