/- Layer 9's laws: things that the document tells. -/
import Derived.Test.YtboalmmpcfiicaaDoorXd4
import Derived.Test.YtboalmmpcfiicaaDoorXdWr2
namespace Go.Proofs.YtboalmmpcfiicaaDoor
open Go.RowKit Go.Shelf
set_option linter.unusedVariables false
set_option maxRecDepth 100000
set_option linter.unusedSimpArgs false

/-- a writer that was made since w0 -/
structure WrB (w0 w : World) (wb : Nat) (v : Value) (l : List UInt8) : Prop where
  at' : WrAt w wb v l
  bel : Below w0.heap.size w0 w
  new : w0.heap.size ≤ wb
  own : ∀ k, v.ownBlock = some k → w0.heap.size ≤ k
theorem WrB.layF {w0 w : World} {wb : Nat} {v : Value} {l : List UInt8} (h : WrB w0 w wb v l) : ∀ k, LayF wb v k → w0.heap.size ≤ k := fun k hk => by
  rcases hk with rfl | hk
  · exact h.new
  · exact h.own k hk
theorem WrB.start {w0 w : World} (hb : Below w0.heap.size w0 w) : WrB w0 (w.alloc (.cells #[.slice none 0 0] 50)) w.heap.size (.slice none 0 0) [] :=
  ⟨⟨Cs.new w 50 #[.slice none 0 0], World.ownsRow_nil _ _ _ _⟩, below_new hb _, hb.size, fun k h => by cases h⟩
theorem WrB.laid {w0 w : World} {wb : Nat} {v : Value} {l l' : List UInt8} {e : Ending} {w' : World} (h : WrB w0 w wb v l) (k : Laid wb v l' w e w') : ∃ v', WrB w0 w' wb v' l' := by
  obtain ⟨-, v', h1, h2, h3⟩ := k
  refine ⟨v', h1, h.bel.trans (h2.below h.bel.size h.layF), h.new, fun k hk => ?_⟩
  rcases h3 k hk with h4 | h4
  · exact h.own k h4
  · have := h.bel.size; omega
/-- a reader that was made since w0; its bytes lie below N, and so does it -/
structure RdB (w0 w : World) (rb : Nat) (s : RS) : Prop where
  at' : ∃ F, RdAt w rb s F
  bel : Below w0.heap.size w0 w
  new : w0.heap.size ≤ rb
theorem RdB.told {w0 w : World} {rb : Nat} {s s' : RS} {v : Value} {e : Ending} {w' : World} {F : Nat → Prop} (h : RdB w0 w rb s) (k : Told rb s' F v w e w') : RdB w0 w' rb s' :=
  ⟨⟨F, k.2.1⟩, h.bel.trans (k.2.2.below h.bel.size fun i hi => by have := h.new; omega), h.new⟩
theorem RdB.below {w0 w w' : World} {rb : Nat} {s : RS} (h : RdB w0 w rb s) (hb : Below w.heap.size w w') : RdB w0 w' rb s := ⟨by obtain ⟨F, hF⟩ := h.at'; exact ⟨F, hF.below hb⟩, below_chain h.bel hb, h.new⟩
theorem RdAt.tight {w : World} {rb : Nat} {s : RS} {F : Nat → Prop} (h : RdAt w rb s F) : RdAt w rb s (fun k => F k ∧ k < w.heap.size) := by
  obtain ⟨v, h1, h2, h3, h4⟩ := h
  exact ⟨v, h1, h2.mono fun k hk h => ⟨h, hk⟩, fun h => h3 h.1, h4⟩
theorem lit_rd (W : World) (l : List UInt8) : Rd (W.alloc (.cells (cellsOf l).toArray 5)) (some ⟨W.heap.size, 0, none⟩) l := rd_cs (Cs.new W 5 (cellsOf l).toArray) rfl
end Go.Proofs.YtboalmmpcfiicaaDoor
