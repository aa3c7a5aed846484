/- What the laws' walks take: answers told by what they hold; a span loaded in a region that draws. -/
import Derived.Test.YthjcnijageiaiaaSpaL
import Derived.Test.YthjcnijageiaiaaWordsK
namespace Go.Proofs.Ythjcnijageiaiaa
open Go.RowKit Go.Shelf
set_option linter.unusedVariables false
set_option maxRecDepth 100000
set_option linter.unusedSimpArgs false

theorem cell_bS {w w' : World} {a : Addr} {v : Value} (hb : Below w.heap.size w w') (h : w.cell? a = some v) : w'.cell? a = some v := (hb.cell (lt_of_cell h)).trans h
/-- spans that are told, with no error: which ones is known by what they hold -/
def GivesP (P : List Sp → Sp → List Sp → Prop) (l : List Sp) (s : Sp) (w : World) (e : Ending) (w' : World) : Prop := ∃ r A c, e = .returned (.tuple #[.slice A r.length c, .int .i64 0]) ∧ P l s r ∧ r.length ≤ 2 * l.length + 2 ∧ LsF w' A c r ∧ AppX spE w (.slice A r.length c) r w'
theorem DidSp.yes {P : List Sp → Sp → List Sp → Prop} {l : List Sp} {s : Sp} {w w' : World} {e : Ending} (h : DidSp P l s w e w') (hm : mayS l = true) (hs : s.1 ≤ s.2) : GivesP P l s w e w' := by
  rcases h with ⟨_, _, v, q, rfl, h1, h3, h2⟩ | ⟨h, _⟩
  · obtain ⟨A, c, rfl, h4⟩ := h2.ls
    exact ⟨q, A, c, rfl, h1, h3, h4, h2⟩
  · exact absurd ⟨hm, hs⟩ h
theorem DoesV.loadSp {ops : Array Oper} {T : World → Prop} {o : Oper} {a : Act} (hw : Region.wanted o (yielded ops a.tmps) = true) (x : Operand) (ho : o.op = .load 25 x) (b : Nat) (hx : a.eval x = .pointer (some ⟨b, 0, none⟩)) (s : Sp) (hc : ∀ w, T w → Cs w b 25 (spC s).toArray) : DoesV Try.prog ops T o (.agg (spC s).toArray) a :=
  DoesV.reads hw fun w hT => by
    unfold execOp
    simp only [ho, hx, Instr.loadAt, Instr.sureAddr, Sem.run_bind, Sem.run_pure, Result.andThen_ok, run_loadVar_at w 25 b 0 (spC s) (At.whole (hc w hT)) _ Try.underlying25 rfl infoSpan]
theorem AddOf.has {l a : List Sp} {s : Sp} (h : AddOf l s a) (x : Nat) : hasP a x = (memS l x || inS s x) := by
  unfold hasP
  rw [h.1, Bool.true_and, h.2]
theorem CutOf.has {l a : List Sp} {s : Sp} (h : CutOf l s a) (x : Nat) : hasP a x = (memS l x && !inS s x) := by
  unfold hasP
  rw [h.1, Bool.true_and, h.2]
theorem hasP_may {l : List Sp} (h : mayS l = true) (x : Nat) : hasP l x = memS l x := by
  unfold hasP
  rw [h, Bool.true_and]
theorem AddOf.holds {l a : List Sp} {s : Sp} (h : AddOf l s a) (hs : s.1 ≤ s.2) : holdsP a s = true := by
  unfold holdsP
  rw [h.1, Bool.true_and, holds_iff h.1 hs]
  intro x hx
  rw [h.2, hx, Bool.or_true]
theorem sets_len {l a c : List Sp} {s : Sp} (hs : s.1 ≤ s.2) (ha : AddOf l s a) (hc : CutOf l s c) : lenP a = lenP c + (s.2 - s.1) := by
  unfold lenP
  rw [ha.1, hc.1]
  exact add_len hs ha hc
theorem sets_cut {l a c : List Sp} {s : Sp} (ha : AddOf l s a) (hc : CutOf l s c) : CutOf a s c := ⟨hc.1, fun x => by
  rw [hc.2, ha.2]
  cases memS l x <;> cases inS s x <;> rfl⟩

end Go.Proofs.Ythjcnijageiaiaa
