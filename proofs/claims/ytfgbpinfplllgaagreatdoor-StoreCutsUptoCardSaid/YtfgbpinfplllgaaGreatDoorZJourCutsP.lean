/- SWEPT -/
import Derived.Deep.Slices
import Derived.Test.YtfgbpinfplllgaaGreatDoorZJourOwnW
set_option linter.unusedVariables false
set_option linter.unusedSimpArgs false
namespace Go.Proofs.YtfgbpinfplllgaaGreatDoor
open Go.RowKit Go.Shelf
set_option maxRecDepth 100000
def Else (F : Nat → Prop) (w : World) (i : Nat) : Prop := ¬ F i ∧ i < w.heap.size
structure Foot (F : Nat → Prop) (w : World) (F' : Nat → Prop) (w' : World) : Prop where
  turn : Turn w w' F
  take : ∀ i, F' i → (F i ∨ w.heap.size ≤ i) ∧ i < w'.heap.size
theorem Foot.els {F F' : Nat → Prop} {w w' : World} (h : Foot F w F' w') {i : Nat} (hi : Else F w i) : Else F' w' i :=
  ⟨fun hf => by rcases (h.take i hf).1 with h1 | h1; exact hi.1 h1; exact absurd hi.2 (Nat.not_lt.2 h1), Nat.lt_of_lt_of_le hi.2 h.turn.size⟩
theorem Foot.low {F F' : Nat → Prop} {w w' : World} {B : Nat} (h : Foot F w F' w') (hB : B ≤ w.heap.size) (hF : ∀ i, F i → B ≤ i) : ∀ i, F' i → B ≤ i := fun i hi => by rcases (h.take i hi).1 with h1 | h1; exact hF i h1; omega
theorem Foot.below {F F' : Nat → Prop} {w0 w w' : World} (h : Foot F w F' w') (hb : Below w0.heap.size w0 w) (hF : ∀ i, F i → w0.heap.size ≤ i) : Below w0.heap.size w0 w' := hb.trans (h.turn.below hb.size hF)
theorem Foot.of_below {F : Nat → Prop} {w w' : World} (hb : Below w.heap.size w w') (hF : ∀ i, F i → i < w.heap.size) : Foot F w F w' := ⟨Turn.of_below hb F, fun i hi => ⟨.inl hi, Nat.lt_of_lt_of_le (hF i hi) hb.size⟩⟩
def More (F : Nat → Prop) (w : World) (i : Nat) : Prop := F i ∨ w.heap.size ≤ i
theorem Foot.more {F F' : Nat → Prop} {w w' : World} (h : Turn w w' (More F w)) (hF : ∀ i, F' i → More F w i ∧ i < w'.heap.size) : Foot F w F' w' := ⟨h.mono fun i hi hm => hm.elim id fun hge => absurd hi (Nat.not_lt.2 hge), hF⟩
theorem OnJ.tight {w : World} {jb d : Nat} {v : Value} {j : JS} {s : DS} {H : Nat} {F : Nat → Prop} (h : OnJ w jb d v j s H F) : OnJ w jb d v j s H (fun i => F i ∧ i < w.heap.size) := h.mono fun k hk hf => ⟨hf, hk⟩
theorem OnJ.more {w : World} {jb d : Nat} {v : Value} {j : JS} {s : DS} {H : Nat} {F : Nat → Prop} (h : OnJ w jb d v j s H F) : OnJ w jb d v j s H (More F w) := h.mono fun k _ hf => .inl hf
theorem OnJ.lend {w : World} {jb d : Nat} {v : Value} {j : JS} {s : DS} {H : Nat} {F : Nat → Prop} (h : OnJ w jb d v j s H F) (hF : ∀ k, w.heap.size ≤ k → F k) :
    ∃ FD, DiskV w d s FD ∧ (∀ k, w.heap.size ≤ k → FD k) ∧ (∀ k, FD k → F k) ∧ ∀ w' s', DiskV w' d s' FD → Turn w w' FD → s'.blocks = s.blocks → OnJ w' jb d v j s' H F := by
  have hjl := h.lt
  obtain ⟨FD, FJ, h1, h2, h3, h4, h5, h6, h7, h8⟩ := h
  refine ⟨More FD w, h1.within fun k hk _ => .inl hk, fun k hk => .inr hk, fun k hk => hk.elim (fun h => (h3 k h).1) (hF k), fun w' s' hd ht hb => ?_⟩
  have hz := ht.size
  refine ⟨fun k => More FD w k ∧ k < w'.heap.size, FJ, hd.within fun k hk hl => ⟨hk, hl⟩, h2.turn ht (fun k hk hm => ?_) (fun hm => ?_), fun k hk => ?_, fun k hk => ⟨(h4 k hk).1, by have := (h4 k hk).2; omega⟩, h5, hb.trans h6, h7, h8⟩
  · rcases hm with hm | hm
    · exact (h3 k hm).2.1 hk
    · have := (h4 k hk).2; omega
  · rcases hm with hm | hm
    · exact (h3 _ hm).2.2.1 rfl
    · omega
  · rcases hk.1 with hm | hm
    · exact ⟨(h3 k hm).1, (h3 k hm).2.1, (h3 k hm).2.2.1, hk.2⟩
    · exact ⟨hF k hm, fun hj => by have := (h4 k hj).2; omega, fun e => by omega, hk.2⟩
theorem step_crash {w : World} {d : Nat} {s : DS} {F : Nat → Prop} (h : DiskV w d s F) (picks : List Int) (PA : Option Addr) (pc : Nat) (hr : RdI w PA picks) (hwf : ∀ x ∈ picks, -9223372036854775808 ≤ x ∧ x ≤ 9223372036854775807) (hq : s.q.length ≤ 50) (hpl : picks.length ≤ 9223372036854775807) :
    Calls Tryz.prog 21 #[.pointer (some ⟨d, 0, none⟩), .slice PA picks.length pc] w fun e w' => e = .returned (.int .i64 0) ∧ ∃ F', DiskV w' d (crashed s picks) F' ∧ Foot F w F' w' := by
  refine (Crash_v (F := More F w) (h.within fun k hk _ => .inl hk) (fun k hk => .inr hk) picks PA pc hr hwf (by omega) hpl).mono ?_
  rintro e w' ⟨he, hd, ht⟩
  exact ⟨he, fun i => More F w i ∧ i < w'.heap.size, hd.within fun k hk hl => ⟨hk, hl⟩, Foot.more ht fun i hi => hi⟩
theorem Tells.own {s : DS} {H : Nat} {j : JS} (h : Tells s H j) {now : List (List UInt8)} (hb : batchesT s.laid H = now) : j.batches = now := h.batches.trans hb
theorem Head.arm {H i n : Nat} {s : DS} {now : List (List UInt8)} (h : Head H s now i) : Head H (armed s n) now i := ⟨h.light, h.queue, h.young, h.blocks, h.within, h.there, h.batches, h.next, h.steps⟩
theorem Head.up {H i : Nat} {s : DS} {now : List (List UInt8)} (h : Head H s now i) : Head H s now (i + 1) := ⟨h.light, h.queue, h.young, h.blocks, h.within, h.there, h.batches, by have := h.next; omega, by have := h.steps; omega⟩
end Go.Proofs.YtfgbpinfplllgaaGreatDoor
